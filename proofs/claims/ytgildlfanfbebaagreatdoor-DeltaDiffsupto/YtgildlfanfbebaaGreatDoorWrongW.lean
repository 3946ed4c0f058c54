/- tree.wrong: what is wrong with an entry by itself. (Written by gen_wrong9.py.) -/
import Derived.Test.YtgildlfanfbebaaGreatDoorTargW
import Derived.Test.YtgildlfanfbebaaGreatDoorEntW
import Derived.Test.YtgildlfanfbebaaGreatDoorAny
namespace Go.Proofs.YtgildlfanfbebaaGreatDoor
open Go Go.RowKit

def wrongN (e : Ent) : Int :=
  if e.kind ≠ 1 ∧ e.kind ≠ 2 ∧ e.kind ≠ 3 then 14
  else if checkN e.path ≠ 0 then checkN e.path
  else if e.mode < 0 ∨ 4095 < e.mode ∨ (e.kind = 3 ∧ e.mode ≠ 511) then 16
  else if e.kind = 3 ∧ targB e.link = false then 17
  else if e.kind = 2 ∧ 1048576 < e.data.size then 5
  else if (e.kind ≠ 2 ∧ e.data.toList.isEmpty = false) ∨ (e.kind ≠ 3 ∧ e.link.toList.isEmpty = false) then 4
  else 0
theorem check_any (p : ByteArray) (w : World) (hs : p.size < 1152921504606846976) : Calls Tryz.prog 116 #[.string p] w fun e w' => e = .returned (errV (checkN p)) ∧ Below w.heap.size w w' := by
  cases h : p.toList.isEmpty
  · exact check_some p w h hs (fun x _ hx => fun w => anyOK x hx w)
  · refine (check_root p w h).mono ?_
    rintro e w' ⟨rfl, hb⟩
    exact ⟨by simp [checkN, h], hb⟩
theorem errV_errE (n : Int) : errV n = errE n := rfl
set_option maxRecDepth 100000 in
set_option maxHeartbeats 2000000 in
theorem wrong_x (path : ByteArray) (kind mode : Int) (data link : ByteArray) (w : World) (h1 : kind ≠ 1) (h2 : kind ≠ 2) (h3 : kind ≠ 3) :
    Calls Tryz.prog 85 #[.agg #[.string path, .int .i64 kind, .int .i64 mode, .string data, .string link]] w fun e w' => e = .returned (errE 14) ∧ Below w.heap.size w w' := by
  have k1 : (kind != 1) = true := by simpa using h1
  have k2 : (kind != 2) = true := by simpa using h2
  have k3 : (kind != 3) = true := by simpa using h3
  go_enter Tryz.func85, Tryz.ntmps85
  go_wp2
  go_ret
  exact ⟨rfl, (Below.refl _ _).alloc (Nat.le_refl _) _⟩
set_option maxRecDepth 100000 in
set_option maxHeartbeats 2000000 in
theorem wrong_1c (path : ByteArray) (mode : Int) (data link : ByteArray) (w : World) (hp : path.size < 1152921504606846976) (hc : checkN path ≠ 0) :
    Calls Tryz.prog 85 #[.agg #[.string path, .int .i64 1, .int .i64 mode, .string data, .string link]] w fun e w' => e = .returned (errE (checkN path)) ∧ Below w.heap.size w w' := by
  have bE : Below w.heap.size w (w.alloc (.cells #[.string path, .int .i64 1, .int .i64 mode, .string data, .string link] 52)) := (Below.refl _ _).alloc (Nat.le_refl _) _
  have HC : Hid (errV (checkN path) = .iface 77 (.int .i64 (checkN path))) := errV_some _ hc
  go_enter Tryz.func85, Tryz.ntmps85
  go_wp2_with (go_at_call 116; refine (check_any path _ hp).mono ?_; rintro e w1 ⟨rfl, hb⟩; rw [HC.out])
  go_ret
  exact ⟨congrArg Ending.returned HC.out.symm, bE.trans (hb.mono (by simp))⟩
set_option maxRecDepth 100000 in
set_option maxHeartbeats 2000000 in
theorem wrong_1m0 (path : ByteArray) (mode : Int) (data link : ByteArray) (w : World) (hp : path.size < 1152921504606846976) (hc : checkN path = 0) (hm0 : mode < 0) :
    Calls Tryz.prog 85 #[.agg #[.string path, .int .i64 1, .int .i64 mode, .string data, .string link]] w fun e w' => e = .returned (errE 16) ∧ Below w.heap.size w w' := by
  have bE : Below w.heap.size w (w.alloc (.cells #[.string path, .int .i64 1, .int .i64 mode, .string data, .string link] 52)) := (Below.refl _ _).alloc (Nat.le_refl _) _
  have HC : Hid (errV (checkN path) = .nilIface) := by rw [hc]; exact rfl
  clear hc
  have b0 : decide (mode < 0) = true := by simpa using hm0
  clear hm0
  go_enter Tryz.func85, Tryz.ntmps85
  go_wp2_with ((go_at_call 116; refine (check_any path _ hp).mono ?_; rintro e w1 ⟨rfl, hb⟩; rw [HC.out]; obtain ⟨c0, c1, c2, c3, c4⟩ := (ent_new w 52 ⟨path, 1, mode, data, link⟩).below hb))
  go_ret
  exact ⟨rfl, bE.trans (hb.mono (by simp))⟩
set_option maxRecDepth 100000 in
set_option maxHeartbeats 2000000 in
theorem wrong_1m1 (path : ByteArray) (mode : Int) (data link : ByteArray) (w : World) (hp : path.size < 1152921504606846976) (hc : checkN path = 0) (hm0 : ¬ mode < 0) (hm1 : 4095 < mode) :
    Calls Tryz.prog 85 #[.agg #[.string path, .int .i64 1, .int .i64 mode, .string data, .string link]] w fun e w' => e = .returned (errE 16) ∧ Below w.heap.size w w' := by
  have bE : Below w.heap.size w (w.alloc (.cells #[.string path, .int .i64 1, .int .i64 mode, .string data, .string link] 52)) := (Below.refl _ _).alloc (Nat.le_refl _) _
  have HC : Hid (errV (checkN path) = .nilIface) := by rw [hc]; exact rfl
  clear hc
  have b0 : decide (mode < 0) = false := by simpa using hm0
  have b1 : decide (4095 < mode) = true := by simpa using hm1
  clear hm0 hm1
  go_enter Tryz.func85, Tryz.ntmps85
  go_wp2_with ((go_at_call 116; refine (check_any path _ hp).mono ?_; rintro e w1 ⟨rfl, hb⟩; rw [HC.out]; obtain ⟨c0, c1, c2, c3, c4⟩ := (ent_new w 52 ⟨path, 1, mode, data, link⟩).below hb))
  go_ret
  exact ⟨rfl, bE.trans (hb.mono (by simp))⟩
set_option maxRecDepth 100000 in
set_option maxHeartbeats 2000000 in
theorem wrong_1d (path : ByteArray) (mode : Int) (data link : ByteArray) (w : World) (hp : path.size < 1152921504606846976) (hc : checkN path = 0) (hm0 : ¬ mode < 0) (hm1 : ¬ 4095 < mode) (hd : data.toList.isEmpty = false) :
    Calls Tryz.prog 85 #[.agg #[.string path, .int .i64 1, .int .i64 mode, .string data, .string link]] w fun e w' => e = .returned (errE 4) ∧ Below w.heap.size w w' := by
  have bE : Below w.heap.size w (w.alloc (.cells #[.string path, .int .i64 1, .int .i64 mode, .string data, .string link] 52)) := (Below.refl _ _).alloc (Nat.le_refl _) _
  have HC : Hid (errV (checkN path) = .nilIface) := by rw [hc]; exact rfl
  clear hc
  have b0 : decide (mode < 0) = false := by simpa using hm0
  have b1 : decide (4095 < mode) = false := by simpa using hm1
  clear hm0 hm1
  go_enter Tryz.func85, Tryz.ntmps85
  go_wp2_with ((go_at_call 116; refine (check_any path _ hp).mono ?_; rintro e w1 ⟨rfl, hb⟩; rw [HC.out]; obtain ⟨c0, c1, c2, c3, c4⟩ := (ent_new w 52 ⟨path, 1, mode, data, link⟩).below hb))
  go_ret
  exact ⟨rfl, bE.trans (hb.mono (by simp))⟩
set_option maxRecDepth 100000 in
set_option maxHeartbeats 2000000 in
theorem wrong_1l (path : ByteArray) (mode : Int) (data link : ByteArray) (w : World) (hp : path.size < 1152921504606846976) (hc : checkN path = 0) (hm0 : ¬ mode < 0) (hm1 : ¬ 4095 < mode) (hd : data.toList.isEmpty = true) (hl : link.toList.isEmpty = false) :
    Calls Tryz.prog 85 #[.agg #[.string path, .int .i64 1, .int .i64 mode, .string data, .string link]] w fun e w' => e = .returned (errE 4) ∧ Below w.heap.size w w' := by
  have bE : Below w.heap.size w (w.alloc (.cells #[.string path, .int .i64 1, .int .i64 mode, .string data, .string link] 52)) := (Below.refl _ _).alloc (Nat.le_refl _) _
  have HC : Hid (errV (checkN path) = .nilIface) := by rw [hc]; exact rfl
  clear hc
  have b0 : decide (mode < 0) = false := by simpa using hm0
  have b1 : decide (4095 < mode) = false := by simpa using hm1
  clear hm0 hm1
  go_enter Tryz.func85, Tryz.ntmps85
  go_wp2_with ((go_at_call 116; refine (check_any path _ hp).mono ?_; rintro e w1 ⟨rfl, hb⟩; rw [HC.out]; obtain ⟨c0, c1, c2, c3, c4⟩ := (ent_new w 52 ⟨path, 1, mode, data, link⟩).below hb))
  go_ret
  exact ⟨rfl, bE.trans (hb.mono (by simp))⟩
set_option maxRecDepth 100000 in
set_option maxHeartbeats 2000000 in
theorem wrong_1o (path : ByteArray) (mode : Int) (data link : ByteArray) (w : World) (hp : path.size < 1152921504606846976) (hc : checkN path = 0) (hm0 : ¬ mode < 0) (hm1 : ¬ 4095 < mode) (hd : data.toList.isEmpty = true) (hl : link.toList.isEmpty = true) :
    Calls Tryz.prog 85 #[.agg #[.string path, .int .i64 1, .int .i64 mode, .string data, .string link]] w fun e w' => e = .returned (errE 0) ∧ Below w.heap.size w w' := by
  have bE : Below w.heap.size w (w.alloc (.cells #[.string path, .int .i64 1, .int .i64 mode, .string data, .string link] 52)) := (Below.refl _ _).alloc (Nat.le_refl _) _
  have HC : Hid (errV (checkN path) = .nilIface) := by rw [hc]; exact rfl
  clear hc
  have b0 : decide (mode < 0) = false := by simpa using hm0
  have b1 : decide (4095 < mode) = false := by simpa using hm1
  clear hm0 hm1
  go_enter Tryz.func85, Tryz.ntmps85
  go_wp2_with ((go_at_call 116; refine (check_any path _ hp).mono ?_; rintro e w1 ⟨rfl, hb⟩; rw [HC.out]; obtain ⟨c0, c1, c2, c3, c4⟩ := (ent_new w 52 ⟨path, 1, mode, data, link⟩).below hb))
  go_ret
  exact ⟨rfl, bE.trans (hb.mono (by simp))⟩
set_option maxRecDepth 100000 in
set_option maxHeartbeats 2000000 in
theorem wrong_2c (path : ByteArray) (mode : Int) (data link : ByteArray) (w : World) (hp : path.size < 1152921504606846976) (hc : checkN path ≠ 0) :
    Calls Tryz.prog 85 #[.agg #[.string path, .int .i64 2, .int .i64 mode, .string data, .string link]] w fun e w' => e = .returned (errE (checkN path)) ∧ Below w.heap.size w w' := by
  have bE : Below w.heap.size w (w.alloc (.cells #[.string path, .int .i64 2, .int .i64 mode, .string data, .string link] 52)) := (Below.refl _ _).alloc (Nat.le_refl _) _
  have HC : Hid (errV (checkN path) = .iface 77 (.int .i64 (checkN path))) := errV_some _ hc
  go_enter Tryz.func85, Tryz.ntmps85
  go_wp2_with (go_at_call 116; refine (check_any path _ hp).mono ?_; rintro e w1 ⟨rfl, hb⟩; rw [HC.out])
  go_ret
  exact ⟨congrArg Ending.returned HC.out.symm, bE.trans (hb.mono (by simp))⟩
set_option maxRecDepth 100000 in
set_option maxHeartbeats 2000000 in
theorem wrong_2m0 (path : ByteArray) (mode : Int) (data link : ByteArray) (w : World) (hp : path.size < 1152921504606846976) (hc : checkN path = 0) (hm0 : mode < 0) :
    Calls Tryz.prog 85 #[.agg #[.string path, .int .i64 2, .int .i64 mode, .string data, .string link]] w fun e w' => e = .returned (errE 16) ∧ Below w.heap.size w w' := by
  have bE : Below w.heap.size w (w.alloc (.cells #[.string path, .int .i64 2, .int .i64 mode, .string data, .string link] 52)) := (Below.refl _ _).alloc (Nat.le_refl _) _
  have HC : Hid (errV (checkN path) = .nilIface) := by rw [hc]; exact rfl
  clear hc
  have b0 : decide (mode < 0) = true := by simpa using hm0
  clear hm0
  go_enter Tryz.func85, Tryz.ntmps85
  go_wp2_with ((go_at_call 116; refine (check_any path _ hp).mono ?_; rintro e w1 ⟨rfl, hb⟩; rw [HC.out]; obtain ⟨c0, c1, c2, c3, c4⟩ := (ent_new w 52 ⟨path, 2, mode, data, link⟩).below hb))
  go_ret
  exact ⟨rfl, bE.trans (hb.mono (by simp))⟩
set_option maxRecDepth 100000 in
set_option maxHeartbeats 2000000 in
theorem wrong_2m1 (path : ByteArray) (mode : Int) (data link : ByteArray) (w : World) (hp : path.size < 1152921504606846976) (hc : checkN path = 0) (hm0 : ¬ mode < 0) (hm1 : 4095 < mode) :
    Calls Tryz.prog 85 #[.agg #[.string path, .int .i64 2, .int .i64 mode, .string data, .string link]] w fun e w' => e = .returned (errE 16) ∧ Below w.heap.size w w' := by
  have bE : Below w.heap.size w (w.alloc (.cells #[.string path, .int .i64 2, .int .i64 mode, .string data, .string link] 52)) := (Below.refl _ _).alloc (Nat.le_refl _) _
  have HC : Hid (errV (checkN path) = .nilIface) := by rw [hc]; exact rfl
  clear hc
  have b0 : decide (mode < 0) = false := by simpa using hm0
  have b1 : decide (4095 < mode) = true := by simpa using hm1
  clear hm0 hm1
  go_enter Tryz.func85, Tryz.ntmps85
  go_wp2_with ((go_at_call 116; refine (check_any path _ hp).mono ?_; rintro e w1 ⟨rfl, hb⟩; rw [HC.out]; obtain ⟨c0, c1, c2, c3, c4⟩ := (ent_new w 52 ⟨path, 2, mode, data, link⟩).below hb))
  go_ret
  exact ⟨rfl, bE.trans (hb.mono (by simp))⟩
set_option maxRecDepth 100000 in
set_option maxHeartbeats 2000000 in
theorem wrong_2z (path : ByteArray) (mode : Int) (data link : ByteArray) (w : World) (hp : path.size < 1152921504606846976) (hc : checkN path = 0) (hm0 : ¬ mode < 0) (hm1 : ¬ 4095 < mode) (hz : 1048576 < data.size) :
    Calls Tryz.prog 85 #[.agg #[.string path, .int .i64 2, .int .i64 mode, .string data, .string link]] w fun e w' => e = .returned (errE 5) ∧ Below w.heap.size w w' := by
  have bE : Below w.heap.size w (w.alloc (.cells #[.string path, .int .i64 2, .int .i64 mode, .string data, .string link] 52)) := (Below.refl _ _).alloc (Nat.le_refl _) _
  have HC : Hid (errV (checkN path) = .nilIface) := by rw [hc]; exact rfl
  clear hc
  have b0 : decide (mode < 0) = false := by simpa using hm0
  have b1 : decide (4095 < mode) = false := by simpa using hm1
  have bz : decide ((1048576 : Int) < (data.size : Int)) = true := by simp; omega
  clear hm0 hm1 hz
  go_enter Tryz.func85, Tryz.ntmps85
  go_wp2_with ((go_at_call 116; refine (check_any path _ hp).mono ?_; rintro e w1 ⟨rfl, hb⟩; rw [HC.out]; obtain ⟨c0, c1, c2, c3, c4⟩ := (ent_new w 52 ⟨path, 2, mode, data, link⟩).below hb))
  go_ret
  exact ⟨rfl, bE.trans (hb.mono (by simp))⟩
set_option maxRecDepth 100000 in
set_option maxHeartbeats 2000000 in
theorem wrong_2l (path : ByteArray) (mode : Int) (data link : ByteArray) (w : World) (hp : path.size < 1152921504606846976) (hc : checkN path = 0) (hm0 : ¬ mode < 0) (hm1 : ¬ 4095 < mode) (hz : ¬ 1048576 < data.size) (hl : link.toList.isEmpty = false) :
    Calls Tryz.prog 85 #[.agg #[.string path, .int .i64 2, .int .i64 mode, .string data, .string link]] w fun e w' => e = .returned (errE 4) ∧ Below w.heap.size w w' := by
  have bE : Below w.heap.size w (w.alloc (.cells #[.string path, .int .i64 2, .int .i64 mode, .string data, .string link] 52)) := (Below.refl _ _).alloc (Nat.le_refl _) _
  have HC : Hid (errV (checkN path) = .nilIface) := by rw [hc]; exact rfl
  clear hc
  have b0 : decide (mode < 0) = false := by simpa using hm0
  have b1 : decide (4095 < mode) = false := by simpa using hm1
  have bz : decide ((1048576 : Int) < (data.size : Int)) = false := by simp; omega
  clear hm0 hm1 hz
  go_enter Tryz.func85, Tryz.ntmps85
  go_wp2_with ((go_at_call 116; refine (check_any path _ hp).mono ?_; rintro e w1 ⟨rfl, hb⟩; rw [HC.out]; obtain ⟨c0, c1, c2, c3, c4⟩ := (ent_new w 52 ⟨path, 2, mode, data, link⟩).below hb))
  go_ret
  exact ⟨rfl, bE.trans (hb.mono (by simp))⟩
set_option maxRecDepth 100000 in
set_option maxHeartbeats 2000000 in
theorem wrong_2o (path : ByteArray) (mode : Int) (data link : ByteArray) (w : World) (hp : path.size < 1152921504606846976) (hc : checkN path = 0) (hm0 : ¬ mode < 0) (hm1 : ¬ 4095 < mode) (hz : ¬ 1048576 < data.size) (hl : link.toList.isEmpty = true) :
    Calls Tryz.prog 85 #[.agg #[.string path, .int .i64 2, .int .i64 mode, .string data, .string link]] w fun e w' => e = .returned (errE 0) ∧ Below w.heap.size w w' := by
  have bE : Below w.heap.size w (w.alloc (.cells #[.string path, .int .i64 2, .int .i64 mode, .string data, .string link] 52)) := (Below.refl _ _).alloc (Nat.le_refl _) _
  have HC : Hid (errV (checkN path) = .nilIface) := by rw [hc]; exact rfl
  clear hc
  have b0 : decide (mode < 0) = false := by simpa using hm0
  have b1 : decide (4095 < mode) = false := by simpa using hm1
  have bz : decide ((1048576 : Int) < (data.size : Int)) = false := by simp; omega
  clear hm0 hm1 hz
  go_enter Tryz.func85, Tryz.ntmps85
  go_wp2_with ((go_at_call 116; refine (check_any path _ hp).mono ?_; rintro e w1 ⟨rfl, hb⟩; rw [HC.out]; obtain ⟨c0, c1, c2, c3, c4⟩ := (ent_new w 52 ⟨path, 2, mode, data, link⟩).below hb))
  go_ret
  exact ⟨rfl, bE.trans (hb.mono (by simp))⟩
set_option maxRecDepth 100000 in
set_option maxHeartbeats 2000000 in
theorem wrong_3c (path : ByteArray) (mode : Int) (data link : ByteArray) (w : World) (hp : path.size < 1152921504606846976) (hc : checkN path ≠ 0) :
    Calls Tryz.prog 85 #[.agg #[.string path, .int .i64 3, .int .i64 mode, .string data, .string link]] w fun e w' => e = .returned (errE (checkN path)) ∧ Below w.heap.size w w' := by
  have bE : Below w.heap.size w (w.alloc (.cells #[.string path, .int .i64 3, .int .i64 mode, .string data, .string link] 52)) := (Below.refl _ _).alloc (Nat.le_refl _) _
  have HC : Hid (errV (checkN path) = .iface 77 (.int .i64 (checkN path))) := errV_some _ hc
  go_enter Tryz.func85, Tryz.ntmps85
  go_wp2_with (go_at_call 116; refine (check_any path _ hp).mono ?_; rintro e w1 ⟨rfl, hb⟩; rw [HC.out])
  go_ret
  exact ⟨congrArg Ending.returned HC.out.symm, bE.trans (hb.mono (by simp))⟩
set_option maxRecDepth 100000 in
set_option maxHeartbeats 2000000 in
theorem wrong_3m0 (path : ByteArray) (mode : Int) (data link : ByteArray) (w : World) (hp : path.size < 1152921504606846976) (hc : checkN path = 0) (hm0 : mode < 0) :
    Calls Tryz.prog 85 #[.agg #[.string path, .int .i64 3, .int .i64 mode, .string data, .string link]] w fun e w' => e = .returned (errE 16) ∧ Below w.heap.size w w' := by
  have bE : Below w.heap.size w (w.alloc (.cells #[.string path, .int .i64 3, .int .i64 mode, .string data, .string link] 52)) := (Below.refl _ _).alloc (Nat.le_refl _) _
  have HC : Hid (errV (checkN path) = .nilIface) := by rw [hc]; exact rfl
  clear hc
  have b0 : decide (mode < 0) = true := by simpa using hm0
  clear hm0
  go_enter Tryz.func85, Tryz.ntmps85
  go_wp2_with ((go_at_call 116; refine (check_any path _ hp).mono ?_; rintro e w1 ⟨rfl, hb⟩; rw [HC.out]; obtain ⟨c0, c1, c2, c3, c4⟩ := (ent_new w 52 ⟨path, 3, mode, data, link⟩).below hb))
  go_ret
  exact ⟨rfl, bE.trans (hb.mono (by simp))⟩
set_option maxRecDepth 100000 in
set_option maxHeartbeats 2000000 in
theorem wrong_3m1 (path : ByteArray) (mode : Int) (data link : ByteArray) (w : World) (hp : path.size < 1152921504606846976) (hc : checkN path = 0) (hm0 : ¬ mode < 0) (hm1 : 4095 < mode) :
    Calls Tryz.prog 85 #[.agg #[.string path, .int .i64 3, .int .i64 mode, .string data, .string link]] w fun e w' => e = .returned (errE 16) ∧ Below w.heap.size w w' := by
  have bE : Below w.heap.size w (w.alloc (.cells #[.string path, .int .i64 3, .int .i64 mode, .string data, .string link] 52)) := (Below.refl _ _).alloc (Nat.le_refl _) _
  have HC : Hid (errV (checkN path) = .nilIface) := by rw [hc]; exact rfl
  clear hc
  have b0 : decide (mode < 0) = false := by simpa using hm0
  have b1 : decide (4095 < mode) = true := by simpa using hm1
  clear hm0 hm1
  go_enter Tryz.func85, Tryz.ntmps85
  go_wp2_with ((go_at_call 116; refine (check_any path _ hp).mono ?_; rintro e w1 ⟨rfl, hb⟩; rw [HC.out]; obtain ⟨c0, c1, c2, c3, c4⟩ := (ent_new w 52 ⟨path, 3, mode, data, link⟩).below hb))
  go_ret
  exact ⟨rfl, bE.trans (hb.mono (by simp))⟩
set_option maxRecDepth 100000 in
set_option maxHeartbeats 2000000 in
theorem wrong_3m5 (path : ByteArray) (mode : Int) (data link : ByteArray) (w : World) (hp : path.size < 1152921504606846976) (hc : checkN path = 0) (hm0 : ¬ mode < 0) (hm1 : ¬ 4095 < mode) (hm5 : mode ≠ 511) :
    Calls Tryz.prog 85 #[.agg #[.string path, .int .i64 3, .int .i64 mode, .string data, .string link]] w fun e w' => e = .returned (errE 16) ∧ Below w.heap.size w w' := by
  have bE : Below w.heap.size w (w.alloc (.cells #[.string path, .int .i64 3, .int .i64 mode, .string data, .string link] 52)) := (Below.refl _ _).alloc (Nat.le_refl _) _
  have HC : Hid (errV (checkN path) = .nilIface) := by rw [hc]; exact rfl
  clear hc
  have b0 : decide (mode < 0) = false := by simpa using hm0
  have b1 : decide (4095 < mode) = false := by simpa using hm1
  have b5 : (mode != 511) = true := by simpa using hm5
  clear hm0 hm1 hm5
  go_enter Tryz.func85, Tryz.ntmps85
  go_wp2_with ((go_at_call 116; refine (check_any path _ hp).mono ?_; rintro e w1 ⟨rfl, hb⟩; rw [HC.out]; obtain ⟨c0, c1, c2, c3, c4⟩ := (ent_new w 52 ⟨path, 3, mode, data, link⟩).below hb))
  go_ret
  exact ⟨rfl, bE.trans (hb.mono (by simp))⟩
set_option maxRecDepth 100000 in
set_option maxHeartbeats 2000000 in
theorem wrong_3t (path : ByteArray) (mode : Int) (data link : ByteArray) (w : World) (hp : path.size < 1152921504606846976) (hc : checkN path = 0) (hm0 : ¬ mode < 0) (hm1 : ¬ 4095 < mode) (hm5 : mode = 511) (ht : targB link = false) :
    Calls Tryz.prog 85 #[.agg #[.string path, .int .i64 3, .int .i64 mode, .string data, .string link]] w fun e w' => e = .returned (errE 17) ∧ Below w.heap.size w w' := by
  have bE : Below w.heap.size w (w.alloc (.cells #[.string path, .int .i64 3, .int .i64 mode, .string data, .string link] 52)) := (Below.refl _ _).alloc (Nat.le_refl _) _
  have HC : Hid (errV (checkN path) = .nilIface) := by rw [hc]; exact rfl
  clear hc
  have b0 : decide (mode < 0) = false := by simpa using hm0
  have b1 : decide (4095 < mode) = false := by simpa using hm1
  have b5 : (mode != 511) = false := by simpa using hm5
  have HT : Hid (targB link = false) := ht
  clear ht
  clear hm0 hm1 hm5
  go_enter Tryz.func85, Tryz.ntmps85
  go_wp2_with ((first | (go_at_call 116; refine (check_any path _ hp).mono ?_; rintro e w1 ⟨rfl, hb⟩; rw [HC.out]; obtain ⟨c0, c1, c2, c3, c4⟩ := (ent_new w 52 ⟨path, 3, mode, data, link⟩).below hb) | (go_at_call 117; refine (targ_p link _).mono ?_; rintro e w2 ⟨rfl, hw2⟩; subst hw2; rw [HT.out])))
  go_ret
  exact ⟨rfl, bE.trans (hb.mono (by simp))⟩
set_option maxRecDepth 100000 in
set_option maxHeartbeats 2000000 in
theorem wrong_3d (path : ByteArray) (mode : Int) (data link : ByteArray) (w : World) (hp : path.size < 1152921504606846976) (hc : checkN path = 0) (hm0 : ¬ mode < 0) (hm1 : ¬ 4095 < mode) (hm5 : mode = 511) (ht : targB link = true) (hd : data.toList.isEmpty = false) :
    Calls Tryz.prog 85 #[.agg #[.string path, .int .i64 3, .int .i64 mode, .string data, .string link]] w fun e w' => e = .returned (errE 4) ∧ Below w.heap.size w w' := by
  have bE : Below w.heap.size w (w.alloc (.cells #[.string path, .int .i64 3, .int .i64 mode, .string data, .string link] 52)) := (Below.refl _ _).alloc (Nat.le_refl _) _
  have HC : Hid (errV (checkN path) = .nilIface) := by rw [hc]; exact rfl
  clear hc
  have b0 : decide (mode < 0) = false := by simpa using hm0
  have b1 : decide (4095 < mode) = false := by simpa using hm1
  have b5 : (mode != 511) = false := by simpa using hm5
  have HT : Hid (targB link = true) := ht
  clear ht
  clear hm0 hm1 hm5
  go_enter Tryz.func85, Tryz.ntmps85
  go_wp2_with ((first | (go_at_call 116; refine (check_any path _ hp).mono ?_; rintro e w1 ⟨rfl, hb⟩; rw [HC.out]; obtain ⟨c0, c1, c2, c3, c4⟩ := (ent_new w 52 ⟨path, 3, mode, data, link⟩).below hb) | (go_at_call 117; refine (targ_p link _).mono ?_; rintro e w2 ⟨rfl, hw2⟩; subst hw2; rw [HT.out])))
  go_ret
  exact ⟨rfl, bE.trans (hb.mono (by simp))⟩
set_option maxRecDepth 100000 in
set_option maxHeartbeats 2000000 in
theorem wrong_3o (path : ByteArray) (mode : Int) (data link : ByteArray) (w : World) (hp : path.size < 1152921504606846976) (hc : checkN path = 0) (hm0 : ¬ mode < 0) (hm1 : ¬ 4095 < mode) (hm5 : mode = 511) (ht : targB link = true) (hd : data.toList.isEmpty = true) :
    Calls Tryz.prog 85 #[.agg #[.string path, .int .i64 3, .int .i64 mode, .string data, .string link]] w fun e w' => e = .returned (errE 0) ∧ Below w.heap.size w w' := by
  have bE : Below w.heap.size w (w.alloc (.cells #[.string path, .int .i64 3, .int .i64 mode, .string data, .string link] 52)) := (Below.refl _ _).alloc (Nat.le_refl _) _
  have HC : Hid (errV (checkN path) = .nilIface) := by rw [hc]; exact rfl
  clear hc
  have b0 : decide (mode < 0) = false := by simpa using hm0
  have b1 : decide (4095 < mode) = false := by simpa using hm1
  have b5 : (mode != 511) = false := by simpa using hm5
  have HT : Hid (targB link = true) := ht
  clear ht
  clear hm0 hm1 hm5
  go_enter Tryz.func85, Tryz.ntmps85
  go_wp2_with ((first | (go_at_call 116; refine (check_any path _ hp).mono ?_; rintro e w1 ⟨rfl, hb⟩; rw [HC.out]; obtain ⟨c0, c1, c2, c3, c4⟩ := (ent_new w 52 ⟨path, 3, mode, data, link⟩).below hb) | (go_at_call 117; refine (targ_p link _).mono ?_; rintro e w2 ⟨rfl, hw2⟩; subst hw2; rw [HT.out])))
  go_ret
  exact ⟨rfl, bE.trans (hb.mono (by simp))⟩
theorem wrong_p (e : Ent) (w : World) (hp : e.path.size < 1152921504606846976) :
    Calls Tryz.prog 85 #[.agg #[.string e.path, .int .i64 e.kind, .int .i64 e.mode, .string e.data, .string e.link]] w fun ex w' => ex = .returned (errE (wrongN e)) ∧ Below w.heap.size w w' := by
  obtain ⟨path, kind, mode, data, link⟩ := e
  by_cases h1 : kind = 1
  · subst h1
    by_cases hc : checkN path = 0
    · by_cases m0 : mode < 0
      · simpa [wrongN, hc, m0] using wrong_1m0 path mode data link w hp hc m0
      · by_cases m1 : 4095 < mode
        · simpa [wrongN, hc, m0, m1] using wrong_1m1 path mode data link w hp hc m0 m1
        · cases hd : data.toList.isEmpty
          · simpa [wrongN, hc, m0, m1, hd] using wrong_1d path mode data link w hp hc m0 m1 hd
          · cases hl : link.toList.isEmpty
            · simpa [wrongN, hc, m0, m1, hd, hl] using wrong_1l path mode data link w hp hc m0 m1 hd hl
            · simpa [wrongN, hc, m0, m1, hd, hl] using wrong_1o path mode data link w hp hc m0 m1 hd hl
    · simpa [wrongN, hc] using wrong_1c path mode data link w hp hc
  · by_cases h2 : kind = 2
    · subst h2
      by_cases hc : checkN path = 0
      · by_cases m0 : mode < 0
        · simpa [wrongN, hc, m0] using wrong_2m0 path mode data link w hp hc m0
        · by_cases m1 : 4095 < mode
          · simpa [wrongN, hc, m0, m1] using wrong_2m1 path mode data link w hp hc m0 m1
          · by_cases hz : 1048576 < data.size
            · simpa [wrongN, hc, m0, m1, hz] using wrong_2z path mode data link w hp hc m0 m1 hz
            · cases hl : link.toList.isEmpty
              · simpa [wrongN, hc, m0, m1, hz, hl] using wrong_2l path mode data link w hp hc m0 m1 hz hl
              · simpa [wrongN, hc, m0, m1, hz, hl] using wrong_2o path mode data link w hp hc m0 m1 hz hl
      · simpa [wrongN, hc] using wrong_2c path mode data link w hp hc
    · by_cases h3 : kind = 3
      · subst h3
        by_cases hc : checkN path = 0
        · by_cases m0 : mode < 0
          · simpa [wrongN, hc, m0] using wrong_3m0 path mode data link w hp hc m0
          · by_cases m1 : 4095 < mode
            · simpa [wrongN, hc, m0, m1] using wrong_3m1 path mode data link w hp hc m0 m1
            · by_cases m5 : mode = 511
              · cases ht : targB link
                · simpa [wrongN, hc, m5, ht] using wrong_3t path mode data link w hp hc m0 m1 m5 ht
                · cases hd : data.toList.isEmpty
                  · simpa [wrongN, hc, m5, ht, hd] using wrong_3d path mode data link w hp hc m0 m1 m5 ht hd
                  · simpa [wrongN, hc, m5, ht, hd] using wrong_3o path mode data link w hp hc m0 m1 m5 ht hd
              · simpa [wrongN, hc, m0, m1, m5] using wrong_3m5 path mode data link w hp hc m0 m1 m5
        · simpa [wrongN, hc] using wrong_3c path mode data link w hp hc
      · simpa [wrongN, h1, h2, h3] using wrong_x path kind mode data link w h1 h2 h3
end Go.Proofs.YtgildlfanfbebaaGreatDoor
