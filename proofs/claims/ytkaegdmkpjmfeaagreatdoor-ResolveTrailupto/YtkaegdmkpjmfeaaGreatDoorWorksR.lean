/- What works answers; kindAt. -/
import Derived.Test.YtkaegdmkpjmfeaaGreatDoorTrailW
import Derived.Test.YtkaegdmkpjmfeaaGreatDoorPlain

namespace Go.Proofs.YtkaegdmkpjmfeaaGreatDoor
open Go Go.RowKit

def ka : Ent := ⟨⟨#[97]⟩, 2, 420, ⟨#[]⟩, ⟨#[]⟩⟩
def kl : Ent := ⟨⟨#[108]⟩, 3, 511, ⟨#[]⟩, ⟨#[97]⟩⟩
theorem rp_a : piecesB ⟨#[97]⟩ = [⟨#[97]⟩] := by decide +kernel
theorem rp_l : piecesB ⟨#[108]⟩ = [⟨#[108]⟩] := by decide +kernel
theorem rp_x : piecesB ⟨#[120]⟩ = [⟨#[120]⟩] := by decide +kernel
theorem rc_a : checkN ⟨#[97]⟩ = 0 := by simp only [checkN, rp_a, toList_un, splitP, whiteoutB, joinB, nameN]; decide +kernel
theorem rc_l : checkN ⟨#[108]⟩ = 0 := by simp only [checkN, rp_l, toList_un, splitP, whiteoutB, joinB, nameN]; decide +kernel
theorem rw_a : wrongN ka = 0 := by simp only [wrongN, ka, rc_a, toList_un]; decide +kernel
theorem rw_l : wrongN kl = 0 := by simp only [wrongN, kl, rc_l, toList_un, targB]; decide +kernel
theorem ro_a : oneN [] ka = 0 := by simp only [oneN, rw_a]; decide +kernel
theorem ro_l : oneN [ka] kl = 0 := by simp only [oneN, rw_l]; decide +kernel
theorem rg_al : checkGo [] [ka, kl] = (0, 0) := by simp [checkGo, ro_a, ro_l]
theorem n_a : namesB ⟨#[97]⟩ = [⟨#[97]⟩] := by simp only [namesB, rp_a]; decide +kernel
theorem n_l : namesB ⟨#[108]⟩ = [⟨#[108]⟩] := by simp only [namesB, rp_l]; decide +kernel
theorem n_x : namesB ⟨#[120]⟩ = [⟨#[120]⟩] := by simp only [namesB, rp_x]; decide +kernel
theorem join_root (b : ByteArray) : joinB ⟨#[]⟩ b = b := by
  unfold joinB
  rw [if_pos (by rw [toList_un]; rfl)]
theorem g_a : getE [ka, kl] ⟨#[97]⟩ = some ka := by
  have h1 : pathIs ⟨#[97]⟩ ka = true := by decide +kernel
  unfold getE
  rw [if_neg (by decide)]
  simp [List.find?, h1]
theorem g_l : getE [ka, kl] ⟨#[108]⟩ = some kl := by
  have h1 : pathIs ⟨#[108]⟩ ka = false := by decide +kernel
  have h2 : pathIs ⟨#[108]⟩ kl = true := by decide +kernel
  unfold getE
  rw [if_neg (by decide)]
  simp [List.find?, h1, h2]
theorem g_x : getE [ka, kl] ⟨#[120]⟩ = none := by
  have h1 : pathIs ⟨#[120]⟩ ka = false := by decide +kernel
  have h2 : pathIs ⟨#[120]⟩ kl = false := by decide +kernel
  unfold getE
  rw [if_neg (by decide)]
  simp [List.find?, h1, h2]
theorem nd_a : (⟨#[97]⟩ : ByteArray) ≠ dotB ∧ (⟨#[97]⟩ : ByteArray) ≠ ddB := by decide
theorem nd_l : (⟨#[108]⟩ : ByteArray) ≠ dotB ∧ (⟨#[108]⟩ : ByteArray) ≠ ddB := by decide
theorem nd_x : (⟨#[120]⟩ : ByteArray) ≠ dotB ∧ (⟨#[120]⟩ : ByteArray) ≠ ddB := by decide
theorem step_name {m : Mn} {st : St} {c : ByteArray} {rest : List ByteArray} (h : c ≠ dotB ∧ c ≠ ddB) : stepN m st c rest = match getE st.L (joinB st.here c) with | none => absN m st (joinB st.here c) rest | some e => thereN m st (joinB st.here c) rest e := by
  unfold stepN; rw [if_neg h.1, if_neg h.2]; rfl
theorem k_l (s : Bool) : stepN ⟨0, false, s⟩ (start [ka, kl] ⟨#[108]⟩) ⟨#[108]⟩ [] = if s then (0, { L := [ka, kl], here := ⟨#[108]⟩, left := [], hops := 0, made := [] }) else (0, { L := [ka, kl], here := ⟨#[]⟩, left := [⟨#[97]⟩], hops := 1, made := [] }) := by
  rw [step_name nd_l]
  simp only [start, join_root, g_l]
  cases s with
  | true => rfl
  | false =>
    have hs : slashed kl.link = false := by decide +kernel
    simp only [thereN, isFile, isLink, linkS, kl] at hs ⊢
    simp [hs, n_a]
theorem k_a (s : Bool) : stepN ⟨0, false, s⟩ { L := [ka, kl], here := ⟨#[]⟩, left := [⟨#[97]⟩], hops := 1, made := [] } ⟨#[97]⟩ [] = (0, { L := [ka, kl], here := ⟨#[97]⟩, left := [], hops := 1, made := [] }) := by
  rw [step_name nd_a]
  simp only [join_root, g_a]
  rfl
theorem k_x (s : Bool) : stepN ⟨0, false, s⟩ (start [ka, kl] ⟨#[120]⟩) ⟨#[120]⟩ [] = (10, start [ka, kl] ⟨#[120]⟩) := by
  rw [step_name nd_x]
  simp only [start, join_root, g_x, absN]
theorem k_find_l : goN ⟨0, false, false⟩ (start [ka, kl] ⟨#[108]⟩) = (0, { L := [ka, kl], here := ⟨#[97]⟩, left := [], hops := 1, made := [] }, [⟨#[]⟩, ⟨#[97]⟩]) := by
  have h1 : (start [ka, kl] ⟨#[108]⟩).left = ⟨#[108]⟩ :: [] := n_l
  unfold goN
  rw [show msr (start [ka, kl] ⟨#[108]⟩) = 8001 by unfold msr; rw [h1]; rfl]
  rw [goF_ok h1 (by rw [k_l]; rfl), k_l]
  simp only [Bool.false_eq_true, if_false]
  rw [goF_ok (c := ⟨#[97]⟩) (rest := []) rfl (by rw [k_a]), k_a, goF_nil rfl]
theorem k_stay_l : goN ⟨0, false, true⟩ (start [ka, kl] ⟨#[108]⟩) = (0, { L := [ka, kl], here := ⟨#[108]⟩, left := [], hops := 0, made := [] }, [⟨#[108]⟩]) := by
  have h1 : (start [ka, kl] ⟨#[108]⟩).left = ⟨#[108]⟩ :: [] := n_l
  unfold goN
  rw [show msr (start [ka, kl] ⟨#[108]⟩) = 8001 by unfold msr; rw [h1]; rfl]
  rw [goF_ok h1 (by rw [k_l]; rfl), k_l]
  simp only [if_true]
  rw [goF_nil rfl]
theorem k_find_x : goN ⟨0, false, false⟩ (start [ka, kl] ⟨#[120]⟩) = (10, start [ka, kl] ⟨#[120]⟩, []) := by
  have h1 : (start [ka, kl] ⟨#[120]⟩).left = ⟨#[120]⟩ :: [] := n_x
  unfold goN
  rw [goF_err h1 (by rw [k_x]; decide), k_x]
end Go.Proofs.YtkaegdmkpjmfeaaGreatDoor

namespace Go.Proofs.YtkaegdmkpjmfeaaGreatDoor
open Go Go.RowKit

variable {tb tbase : Nat} {F : Pic}
/-- What Find comes to. -/
def findR (L : List Ent) (way : ByteArray) (last : Bool) : Int × St × List ByteArray := goN ⟨0, false, !last⟩ (start L way)
set_option maxRecDepth 100000 in
theorem find_p (last : Bool) (way : ByteArray) (L : List Ent) (w : World) (h : TreeOf w tb tbase F L) (hw : way.size ≤ 1099511627776) :
    Calls Tryz.prog 12 #[.pointer (some ⟨tb, 0, none⟩), .string way, .bool last] w fun e w' =>
      e = .returned (.tuple #[.string (ansB (findR L way last)), errE (findR L way last).1]) ∧ Below w.heap.size w w' := by
  have hL := lead_ref (!last) way L w h hw
  go_enter Tryz.func12, Tryz.ntmps12
  go_wp2_with (go_at_call 34; refine hL.mono ?_; rintro e w1 ⟨rfl, hb1⟩)
  go_ret2
  exact ⟨rfl, hb1⟩
set_option maxRecDepth 100000 in
theorem of_t (v : Value) (es : List Ent) (w : World) (hg : ErrType w) (hv : EntsAt w v es) (hl : es.length ≤ 4611686018427387904) (hp : ∀ e ∈ es, e.path.size < 1152921504606846976) (hc : (checkGo [] es).1 = 0) :
    Calls Tryz.prog 32 #[v] w fun e w' => Below w.heap.size w w' ∧ ∃ tb F, e = .returned (.tuple #[.pointer (some ⟨tb, 0, none⟩), .nilIface]) ∧ TreeOf w' tb w.heap.size F es := by
  have hG := grow_p v es w hg hv hl hp
  have HC : Hid ((checkGo [] es).1 = 0) := hc
  clear hc
  go_enter Tryz.func32, Tryz.ntmps32
  go_wp2_with (go_at_call 55; refine hG.mono ?_; rintro e w1 ⟨hb, h1⟩; obtain ⟨_, tb, F, rfl, hT⟩ := h1.resolve_right (fun h => h.1 HC.out))
  go_ret2
  exact ⟨hb, tb, F, rfl, hT⟩
set_option maxRecDepth 100000 in
theorem of_e (v : Value) (es : List Ent) (w : World) (hg : ErrType w) (hv : EntsAt w v es) (hl : es.length ≤ 4611686018427387904) (hp : ∀ e ∈ es, e.path.size < 1152921504606846976) (hc : (checkGo [] es).1 ≠ 0) :
    Calls Tryz.prog 32 #[v] w fun e w' => Below w.heap.size w w' ∧ e = .returned (.tuple #[.pointer none, fltA (checkGo [] es).1 (checkGo [] es).2]) := by
  have hG := grow_p v es w hg hv hl hp
  have HC : Hid ((checkGo [] es).1 ≠ 0) := hc
  clear hc
  go_enter Tryz.func32, Tryz.ntmps32
  go_wp2_with (go_at_call 55; refine hG.mono ?_; rintro e w1 ⟨hb, h1⟩; obtain ⟨_, rfl⟩ := h1.resolve_left (fun h => HC.out h.1))
  go_ret2
  exact ⟨hb, rfl⟩
set_option maxRecDepth 100000 in
/-- The statements' own: a copy, made a tree. -/
theorem ofl_ok (v : Value) (es : List Ent) (w : World) (hg : ErrType w) (hv : EntsAt w v es) (hl : es.length ≤ 1073741824) (hp : ∀ e ∈ es, e.path.size < 1152921504606846976) (hc : (checkGo [] es).1 = 0) :
    Calls Tryz.prog 9 #[v] w fun e w' => Below w.heap.size w w' ∧ ∃ tb tbase F, e = .returned (.tuple #[.pointer (some ⟨tb, 0, none⟩), .bool true]) ∧ w.heap.size ≤ tbase ∧ TreeOf w' tb tbase F es := by
  have hC := copy_p v es w hv hl
  go_enter Tryz.func9, Tryz.ntmps9
  go_wp2_with (first | (go_at_call 33; refine hC.mono ?_; rintro e w1 ⟨u, rfl, hu, hb1⟩) | (go_at_call 32; refine (of_t u es _ (hg.below hb1) (ents_of_owns hu) (by omega) hp hc).mono ?_; rintro e w2 ⟨hb2, tb, F, rfl, hT⟩))
  go_ret2
  exact ⟨below_join hb1 hb2, tb, _, F, rfl, hb1.size, hT⟩
set_option maxRecDepth 100000 in
theorem ofl_no (v : Value) (es : List Ent) (w : World) (hg : ErrType w) (hv : EntsAt w v es) (hl : es.length ≤ 1073741824) (hp : ∀ e ∈ es, e.path.size < 1152921504606846976) (hc : (checkGo [] es).1 ≠ 0) :
    Calls Tryz.prog 9 #[v] w fun e w' => Below w.heap.size w w' ∧ e = .returned (.tuple #[.pointer none, .bool false]) := by
  have hC := copy_p v es w hv hl
  have hE := fun u W h1 h2 => of_e u es W h1 h2 (by omega) hp hc
  unfold fltA at hE
  go_enter Tryz.func9, Tryz.ntmps9
  go_wp2_with (first | (go_at_call 33; refine hC.mono ?_; rintro e w1 ⟨u, rfl, hu, hb1⟩) | (go_at_call 32; refine (hE u _ (hg.below hb1) (ents_of_owns hu)).mono ?_; rintro e w2 ⟨hb2, rfl⟩))
  go_ret2
  exact ⟨below_join hb1 hb2, rfl⟩
end Go.Proofs.YtkaegdmkpjmfeaaGreatDoor

namespace Go.Proofs.YtkaegdmkpjmfeaaGreatDoor
open Go Go.RowKit

/-- Two entries in a block of their own. -/
theorem ents_two (W : World) (a b : Ent) : EntsAt (W.alloc (.cells #[.string a.path, .int .i64 a.kind, .int .i64 a.mode, .string a.data, .string a.link, .string b.path, .int .i64 b.kind, .int .i64 b.mode, .string b.data, .string b.link] 64)) (.slice (some ⟨W.heap.size, 0, none⟩) 2 2) [a, b] := by
  refine ⟨some ⟨W.heap.size, 0, none⟩, 2, W.heap.size, 0, rfl, fun _ => rfl, Nat.le_refl _, fun i e he => ?_⟩
  have h : ∀ (j : Nat) (v : Value), (#[.string a.path, .int .i64 a.kind, .int .i64 a.mode, .string a.data, .string a.link, .string b.path, .int .i64 b.kind, .int .i64 b.mode, .string b.data, .string b.link] : Array Value)[j]? = some v → (W.alloc (.cells #[.string a.path, .int .i64 a.kind, .int .i64 a.mode, .string a.data, .string a.link, .string b.path, .int .i64 b.kind, .int .i64 b.mode, .string b.data, .string b.link] 64)).cell? ⟨W.heap.size, j, none⟩ = some v := fun j v hv => by
    unfold World.cell?
    rw [World.alloc_heap_new]
    exact hv
  rcases i with _ | _ | i
  · cases he; exact ⟨h 0 _ rfl, h 1 _ rfl, h 2 _ rfl, h 3 _ rfl, h 4 _ rfl⟩
  · cases he; exact ⟨h 5 _ rfl, h 6 _ rfl, h 7 _ rfl, h 8 _ rfl, h 9 _ rfl⟩
  · simp at he
set_option maxRecDepth 100000 in
set_option maxHeartbeats 4000000 in
theorem works_r (w : World) (hg : ErrType w) : Calls Tryz.prog 10 #[] w fun e w' => e = .returned (.bool true) ∧ Below w.heap.size w w' := by
  have HB0 : Hid (Below w.heap.size w (w.alloc (.cells #[.string ka.path, .int .i64 ka.kind, .int .i64 ka.mode, .string ka.data, .string ka.link, .string kl.path, .int .i64 kl.kind, .int .i64 kl.mode, .string kl.data, .string kl.link] 64))) := (Below.refl _ w).alloc (Nat.le_refl _) _
  go_enter Tryz.func10, Tryz.ntmps10
  go_wp2_with fail
  refine (of_t _ [ka, kl] _ (hg.below HB0.out) (ents_two w ka kl) (by decide) (by decide) (by rw [rg_al])).mono ?_
  rintro e w1 ⟨hb1, tb, F, rfl, hT1⟩
  have HB1 := below_join HB0.out hb1
  clear hb1 HB0
  go_wp2_with fail
  refine (find_p true ⟨#[108]⟩ [ka, kl] _ hT1 (by decide)).mono ?_
  rintro e w2 ⟨rfl, hb2⟩
  rw [show findR [ka, kl] ⟨#[108]⟩ true = _ from k_find_l]
  have hT2 := hT1.below hb2
  have HB2 := below_join HB1 hb2
  simp only [ansB, errE_zero, if_true]
  clear hb2 hT1 HB1
  go_wp2_with fail
  refine (find_p false ⟨#[108]⟩ [ka, kl] _ hT2 (by decide)).mono ?_
  rintro e w3 ⟨rfl, hb3⟩
  rw [show findR [ka, kl] ⟨#[108]⟩ false = _ from k_stay_l]
  have hT3 := hT2.below hb3
  have HB3 := below_join HB2 hb3
  simp only [ansB, errE_zero, if_true]
  clear hb3 hT2 HB2
  go_wp2_with fail
  refine (find_p true ⟨#[120]⟩ [ka, kl] _ hT3 (by decide)).mono ?_
  rintro e w4 ⟨rfl, hb4⟩
  rw [show findR [ka, kl] ⟨#[120]⟩ true = _ from k_find_x]
  have HB4 := below_join HB3 hb4
  rw [show errE (10, start [ka, kl] ⟨#[120]⟩, ([] : List ByteArray)).1 = .iface 75 (.int .i64 10) from rfl]
  simp only [ansB]
  clear hb4 hT3 HB3
  go_wp2_with (go_at_call 13; refine (plain_some 10 (by decide) (by decide) _ (hg.below HB4)).mono ?_; rintro e w5 ⟨rfl, hb5⟩)
  go_ret
  exact ⟨rfl, below_join HB4 hb5⟩
/-- What kindAt answers. -/
def kindN (L : List Ent) (p : ByteArray) : Int := match getE L p with | none => 0 | some e => e.kind
variable {tb tbase : Nat} {F : Pic}
set_option maxRecDepth 100000 in
theorem kind_p (p : ByteArray) (L : List Ent) (w : World) (h : TreeOf w tb tbase F L) (hp : p.size ≤ 9223372036854775807) : Calls Tryz.prog 26 #[.pointer (some ⟨tb, 0, none⟩), .string p] w fun e w' => e = .returned (.int .i64 (kindN L p)) ∧ Below w.heap.size w w' := by
  have hG := get_p tb tbase F L p hp w h
  cases hg : getE L p with
  | none =>
    rw [hg] at hG
    have HK : Hid (kindN L p = 0) := by unfold Hid kindN; rw [hg]
    simp only [getV] at hG
    clear hg
    go_enter Tryz.func26, Tryz.ntmps26
    go_wp2_with (go_at_call 49; refine hG.mono ?_; rintro e w1 ⟨rfl, hb1⟩)
    go_ret
    exact ⟨by rw [HK.out]; rfl, hb1.alloc hb1.size _⟩
  | some x =>
    rw [hg] at hG
    have HK : Hid (kindN L p = x.kind) := by unfold Hid kindN; rw [hg]
    simp only [getV] at hG
    clear hg
    go_enter Tryz.func26, Tryz.ntmps26
    go_wp2_with (go_at_call 49; refine hG.mono ?_; rintro e w1 ⟨rfl, hb1⟩)
    go_ret
    exact ⟨by rw [HK.out]; rfl, hb1.alloc hb1.size _⟩
end Go.Proofs.YtkaegdmkpjmfeaaGreatDoor
