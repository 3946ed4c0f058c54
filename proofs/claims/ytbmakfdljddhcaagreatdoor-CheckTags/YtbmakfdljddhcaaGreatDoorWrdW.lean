/- Package expand's Word and Doc: what the pieces come to, for every text. -/
import Derived.Test.YtbmakfdljddhcaaGreatDoorEacW
import Derived.Test.YtbmakfdljddhcaaGreatDoorTqW
namespace Go.Proofs.YtbmakfdljddhcaaGreatDoor
open Go Go.RowKit Go.Maps

set_option maxHeartbeats 2000000 in
set_option maxRecDepth 100000 in
theorem newReader_p (s : ByteArray) (e : UInt8) (m : Nat) (W : World) : Calls Tryz.prog 95 #[.string s, .int .u8 e.toNat, .int .u8 (m : Int)] W fun x w' => ∃ R v, x = .returned (.pointer (some ⟨R, 0, none⟩)) ∧ Rd w' R s e 0 v [m] ∧ (∀ k, rdS R v k → W.heap.size ≤ k) ∧ Below W.heap.size W w' := by
  have HL : Hid (∀ o, Lies ((W.alloc o).alloc (.cells #[.string s, .int .u8 e.toNat, .int .i64 0, .slice (some ⟨W.heap.size, 0, none⟩) 1 1] 161)) (W.heap.size + 1) 161 #[.string s, .int .u8 e.toNat, .int .i64 0, .slice (some ⟨W.heap.size, 0, none⟩) 1 1]) := fun o => by
    have := Lies.new (W.alloc o) 161 #[.string s, .int .u8 e.toNat, .int .i64 0, .slice (some ⟨W.heap.size, 0, none⟩) 1 1]
    rw [World.size_alloc] at this; exact this
  have HM : Hid (∀ o, Lies ((W.alloc (.cells #[.int .u8 (m : Int)] 141)).alloc o) W.heap.size 141 #[.int .u8 (m : Int)]) := fun o => (Lies.new W _ _).alloc o
  go_enter Tryz.func95, Tryz.ntmps95
  go_wp2
  go_ret
  refine ⟨W.heap.size + 1, .slice (some ⟨W.heap.size, 0, none⟩) 1 1, by first | rfl | simp, ⟨HL.out _, ?_⟩, ?_, ?_⟩
  · exact ⟨rfl, .inr ⟨W.heap.size, 1, #[.int .u8 (m : Int)], rfl, Nat.zero_le _, HM.out _, Nat.le_refl _, by unfold maxLen; omega, rfl, rfl⟩⟩
  · rintro k (rfl | hk)
    · omega
    · simp [Value.ownBlock] at hk; omega
  · exact ((Below.refl _ W).alloc (Nat.le_refl _) _).alloc (by simp) _

/-- What stands between the pieces. -/
def JW (W0 : World) (B T X : Nat) (vs : List PrZ) (vv : Value) (pre : List Pc) (S : Nat → Prop) (W : World) : Prop :=
  ∃ t mp ad bv, Tz W B T vs t vv mp ad bv ∧ Lies W X 145 #[.pointer (some ⟨T, 0, none⟩)] ∧ TOk (prL vs) pre t ∧ B ≤ W.heap.size ∧ (∀ j, j < B → W.heap[j]? = W0.heap[j]?) ∧ S = fun j => j < B ∨ j = X ∨ txS T mp bv j
theorem JW.keep {W0 : World} {B T X : Nat} {vs : List PrZ} {vv : Value} : ∀ pre S A C, JW W0 B T X vs vv pre S A → A.heap.size ≤ C.heap.size → (∀ k, S k → C.heap[k]? = A.heap[k]?) → JW W0 B T X vs vv pre S C := by
  rintro pre S A C ⟨t, mp, ad, bv, h1, h2, h3, h4, h5, rfl⟩ hs hk
  exact ⟨t, mp, ad, bv, h1.keep (fun j hj => hk j (by rcases hj with hj | hj; exact .inl hj; exact .inr (.inr hj))), (hk X (.inr (.inl rfl))).trans h2, h3, by omega, fun j hj => (hk j (.inl hj)).trans (h5 j hj), rfl⟩
theorem JW.there {W0 : World} {B T X : Nat} {vs : List PrZ} {vv : Value} : ∀ pre S A, JW W0 B T X vs vv pre S A → ∀ k, S k → k < A.heap.size := by
  rintro pre S A ⟨t, mp, ad, bv, h1, h2, h3, h4, h5, rfl⟩ k hk
  rcases hk with hk | hk | hk
  · omega
  · subst hk; exact h2.lt
  · exact h1.there k hk
theorem JW.ne {B T X : Nat} {vs : List PrZ} {t : TS} {vv mp ad bv : Value} {W : World} (h1 : Tz W B T vs t vv mp ad bv) (h2 : Lies W X 145 #[.pointer (some ⟨T, 0, none⟩)]) : ¬ txS T mp bv X := by
  rintro (rfl | hj | hj)
  · have := h1.lies
    unfold Lies at this h2
    rw [h2] at this
    simp at this
  · rcases h1.map with h9 | ⟨g, m, D, h9, _, ⟨es, clock, h8, _⟩, _⟩
    · rw [h9] at hj; cases hj
    · rw [h9] at hj; injection hj with hj; injection hj with hj; subst hj
      unfold Lies at h2
      rw [h8] at h2; simp at h2
  · obtain ⟨_, cur, hc⟩ := h1.bvS X hj
    unfold Lies at h2
    rw [hc] at h2
    simp at h2
theorem Tz.ge {B T : Nat} {vs : List PrZ} {t : TS} {vv mp ad bv : Value} {W : World} (h1 : Tz W B T vs t vv mp ad bv) : ∀ j, txS T mp bv j → ¬ j < B := by
  rintro j (rfl | hj | hj)
  · have := h1.low; omega
  · rcases h1.map with h9 | ⟨g, m, D, h9, hb, _⟩
    · rw [h9] at hj; cases hj
    · rw [h9] at hj; injection hj with hj; injection hj with hj; subst hj; omega
  · have := (h1.bvS j hj).1; omega
theorem depth_le (vs : List (List UInt8 × List UInt8)) : ∀ (pre : List Pc) (d : Dp), (depL vs pre d).depth ≤ d.depth + pre.length ∧ d.depth - pre.length ≤ (depL vs pre d).depth
  | [], d => by simp [depL]
  | p :: pre, d => by
    have h := depth_le vs pre (stepD vs p d)
    have h2 : (stepD vs p d).depth ≤ d.depth + 1 ∧ d.depth - 1 ≤ (stepD vs p d).depth := by
      cases p <;> simp [stepD, begD, endD] <;> omega
    simp only [depL, List.length_cons]
    omega
/-- The texts in pieces are parts of the text. -/
def szP : Pc → Nat
  | .lit l => l.length
  | .var n | .ifE n | .ifF n => n.length
  | .fin => 0
theorem take_small {e : UInt8} {st : List Nat} {b : UInt8} {t : List UInt8} {p : Pc} {k : Nat} {st2 : List Nat} (h : takeS e st b t = .good p k st2) : szP p ≤ t.length + 1 := by
  have hw := (List.takeWhile_sublist (fun c => !act e c) (l := t)).length_le
  have hq : ∀ n : Nat, (t.take n).length ≤ t.length := fun n => by rw [List.length_take]; omega
  have hq2 : ∀ n : Nat, (t.tail.take n).length ≤ t.length := fun n => by rw [List.length_take, List.length_tail]; omega
  unfold takeS escS dollarS bracesS singS runS at h
  repeat' split at h
  all_goals first
    | (cases h; done)
    | (cases h; show 1 ≤ _; omega)
    | (cases h; show 0 ≤ _; omega)
    | (cases h; exact Nat.le_succ_of_le (hq _))
    | (cases h; exact Nat.le_succ_of_le (hq2 _))
    | (cases h; show (b :: _ : List UInt8).length ≤ _; rw [List.length_cons]; omega)
theorem each_small (e : UInt8) : ∀ (f : Nat) (st : List Nat) (l : List UInt8) (p : Pc), p ∈ (eachF e f st l).1 → szP p ≤ l.length
  | 0, st, l, p, h => by simp [eachF] at h
  | f + 1, st, [], p, h => by simp [eachF] at h
  | f + 1, st, b :: t, p, h => by
    unfold eachF at h
    cases hk : takeS e st b t with
    | bad n => rw [hk] at h; simp at h
    | good q k st2 =>
      rw [hk] at h
      simp only at h
      rcases List.mem_cons.1 h with rfl | h
      · have := take_small hk
        simp; omega
      · have := each_small e f st2 _ p h
        have hl : ((b :: t).drop k).length ≤ (b :: t).length := by rw [List.length_drop]; omega
        omega
def FewQ (vs : List PrZ) : Prop := FewP vs ∧ ∀ x ∈ vs, x.val.size ≤ 1152921504606846976
theorem FewQ.of {vs : List PrZ} (h : FewP vs) : FewQ vs := ⟨h, fun x hx => by have := (h.2 x hx).2; omega⟩

set_option maxHeartbeats 4000000 in
set_option maxRecDepth 100000 in
theorem expanded_p (W : World) (B R : Nat) (s : ByteArray) (e : UInt8) (v vv : Value) (m : Nat) (vs : List PrZ) (hm : m ≤ 1) (h : Rd W R s e 0 v [m]) (hB : B ≤ W.heap.size) (hR : ∀ k, rdS R v k → B ≤ k) (hv : PrsIn B W vv vs) (hf : FewQ vs) (hs : s.size ≤ 1099511627774) :
    Calls Tryz.prog 94 #[.pointer (some ⟨R, 0, none⟩), vv] W fun x w' => x = .returned (.tuple #[.string (bs (ansL (prL vs) (eachL e [m] (un s))).2), erV (ansL (prL vs) (eachL e [m] (un s))).1]) ∧ Below B W w' := by
  obtain ⟨pa, pcap, rfl⟩ : ∃ a cap, vv = .slice a vs.length cap := by
    obtain ⟨a, cap, b, o, h1, _⟩ := hv
    exact ⟨a, cap, h1⟩
  -- the two blocks that are made
  obtain ⟨W2, hW2⟩ : ∃ W2, W2 = (W.alloc (.cells #[.slice pa vs.length pcap, .map none, .pointer none, .slice none 0 0, .bool false, .int .i64 0, .int .i64 0] 152)).alloc (.cells #[.pointer (some ⟨W.heap.size, 0, none⟩)] 145) := ⟨_, rfl⟩
  have b2 : Below W.heap.size W W2 := by rw [hW2]; exact ((Below.refl _ W).alloc (Nat.le_refl _) _).alloc (by simp) _
  have sz2 : W2.heap.size = W.heap.size + 2 := by rw [hW2]; simp
  have h2 : Rd W2 R s e 0 v [m] := h.keep (fun j hj => b2.block j (h.there j hj))
  have L1 : Lies W2 W.heap.size 152 #[.slice pa vs.length pcap, .map none, .pointer none, .slice none 0 0, .bool false, .int .i64 0, .int .i64 0] := by rw [hW2]; exact (Lies.new W _ _).alloc _
  have L2 : Lies W2 (W.heap.size + 1) 145 #[.pointer (some ⟨W.heap.size, 0, none⟩)] := by
    have := Lies.new (W.alloc (.cells #[.slice pa vs.length pcap, .map none, .pointer none, .slice none 0 0, .bool false, .int .i64 0, .int .i64 0] 152)) 145 #[.pointer (some ⟨W.heap.size, 0, none⟩)]
    rw [World.size_alloc] at this; rw [hW2]; exact this
  have hT0 : Tz W2 B W.heap.size vs ⟨[], false, d0⟩ (.slice pa vs.length pcap) (.map none) (.pointer none) (.slice none 0 0) :=
    ⟨L1, hv.keep (fun j hj => b2.block j (by omega)), .inl ⟨rfl, rfl⟩, World.ownsRow_nil _ _ _ _, .inl rfl, hB⟩
  have hJ : JW W2 B W.heap.size (W.heap.size + 1) vs (.slice pa vs.length pcap) [] (fun j => j < B ∨ j = W.heap.size + 1 ∨ txS W.heap.size (.map none) (.slice none 0 0) j) W2 := ⟨_, _, _, _, hT0, L2, ⟨rfl, Nat.zero_le _, .inl ⟨rfl, rfl⟩⟩, by omega, fun _ _ => rfl, rfl⟩
  have hok : okS [m] = true := by simp [okS, hm]
  have hE := each_w #[.pointer (some ⟨W.heap.size + 1, 0, none⟩)] (JW W2 B W.heap.size (W.heap.size + 1) vs (.slice pa vs.length pcap)) JW.keep JW.there W2 R s e v [m] _ (by
    intro pre p S W3 hpre hpl hJ3
    obtain ⟨t, mp, ad, bv, h1, hX, hto, hB3, hlow, rfl⟩ := hJ3
    have hmem : p ∈ (eachL e [m] (un s)).1 := hpre.subset (by simp)
    have hsm := each_small e _ _ _ _ hmem
    rw [un_length] at hsm
    have hdp := depth_le (prL vs) pre d0
    rw [← hto.1] at hdp
    have e0 : d0.depth = 0 := rfl
    refine (do_p p _ W3 B _ vs t _ mp ad bv hX h1 ⟨hf.1, hto.2.1, fun l hl => by subst hl; have : l.length ≤ s.size := hsm; omega, by have h9 : (askP p).length ≤ szP p := (by cases p <;> simp [askP, szP]); omega, by omega, by omega, hB3⟩ hf.2).mono ?_
    rintro x w4 ⟨rfl, mp2, ad2, bv2, hz, hr⟩
    have hXn := JW.ne h1 hX
    have hX2 : Lies w4 (W.heap.size + 1) 145 #[.pointer (some ⟨W.heap.size, 0, none⟩)] := (hr.same _ hX.lt hXn).trans hX
    refine ⟨rfl, _, ⟨_, mp2, ad2, bv2, hz, hX2, hto.put p, Nat.le_trans hB3 hr.size, fun j hj => (hr.same j (by omega) (fun h9 => h1.ge j h9 hj)).trans (hlow j hj), rfl⟩, ⟨hr.os, hr.tape, hr.output, hr.size, fun k hk hn => hr.same k hk (fun h9 => hn (.inr (.inr h9))), fun k hk => ?_⟩⟩
    rcases hk with hk | hk | hk
    · exact .inl (.inl hk)
    · exact .inl (.inr (.inl hk))
    · rcases hr.more k hk with h9 | h9
      · exact .inl (.inr (.inr h9))
      · exact .inr h9) h2 hok (Nat.le_refl _) hJ (fun k hk hn => by
    have h8 := hR k hk
    have h7 := h.there k hk
    rcases hn with hn | hn | hn | hn | hn
    · omega
    · omega
    · omega
    · cases hn
    · cases hn) hs
  obtain ⟨pcs, n, hres⟩ : ∃ pcs n, eachL e [m] (un s) = (pcs, n) := ⟨_, _, rfl⟩
  rw [hres] at hE ⊢
  have HA : Hid (ansL (prL vs) (pcs, n) = if n ≠ 0 then (n, []) else if 65536 < (den (prL vs) pcs d0).length then (5, []) else (0, den (prL vs) pcs d0)) := rfl
  have HB2 : Hid (Below B W W2) := b2.mono hB
  clear h h2 L1 L2 hT0 hJ hv hres
  generalize ansL (prL vs) (pcs, n) = AN at *
  have HW : Hid (W2 = (W.alloc (.cells #[.slice pa vs.length pcap, .map none, .pointer none, .slice none 0 0, .bool false, .int .i64 0, .int .i64 0] 152)).alloc (.cells #[.pointer (some ⟨W.heap.size, 0, none⟩)] 145)) := hW2
  rw [hW2] at hE HB2
  clear hW2 b2 sz2 HW
  go_enter Tryz.func94, Tryz.ntmps94
  go_wp2_with fail
  refine hE.mono ?_
  rintro x w3 ⟨rfl, S2, S3, ⟨t, mp, ad, bv, hz, hX, hto, hB3, hlow, rfl⟩, hr, hS⟩
  have hbb : Below B W w3 := HB2.out.trans ⟨hr.os, hr.tape, hr.output, hr.size, fun j hj => hlow j hj⟩
  have HBB : Hid (Below B W w3) := hbb
  by_cases hn : n = 0
  · have hwh := whole_p w3 B _ vs t _ mp ad bv hz hB3
    have x0 := hX.cell (i := 0) rfl
    have HAN : Hid (bs AN.2 = (if t.long = true then ⟨#[]⟩ else bs t.o) ∧ AN.1 = (if t.long = true then 5 else 0)) := by
      obtain ⟨_, hl, ho⟩ := hto
      unfold Hid
      rw [HA.out, if_neg (by simp [hn])]
      rcases ho with ⟨h1, h2⟩ | ⟨h1, h2⟩
      · rw [if_neg (by rw [← h2]; omega), h1, h2]; exact ⟨rfl, rfl⟩
      · rw [if_pos h2, h1]; exact ⟨rfl, rfl⟩
    have e0 : erV n = .nilIface := by rw [hn]; rfl
    rw [e0]
    clear hz hX hto hlow hr hS hbb hE HA hn
    generalize (if t.long = true then (⟨#[]⟩ : ByteArray) else bs t.o) = SA at *
    generalize (if t.long = true then 5 else 0) = EA at *
    go_wp2_with (go_at_call 100; refine hwh.mono ?_; rintro x w4 ⟨rfl, hb4⟩)
    go_ret2
    refine ⟨?_, HBB.out.trans hb4⟩
    rw [HAN.out.1, HAN.out.2]; rfl
  · have e0 : erV n = .iface 32 (.int .i64 n) := by unfold erV; rw [if_neg hn]
    have HAN : Hid (AN = (n, [])) := by unfold Hid; rw [HA.out, if_pos hn]
    have HN : Hid (erV n = .iface 32 (.int .i64 n)) := e0
    rw [e0]
    clear hz hX hto hlow hr hS hbb hE HA hn e0
    go_wp2
    go_ret2
    refine ⟨?_, HBB.out⟩
    rw [HAN.out, HN.out]; rfl

set_option maxHeartbeats 2000000 in
set_option maxRecDepth 100000 in
theorem word_p (s : ByteArray) (e : UInt8) (vs : List PrZ) (vv : Value) (W : World) (hv : PrsAt W vv vs) (hf : FewQ vs) (hs : s.size ≤ 1099511627774) :
    Calls Tryz.prog 82 #[.string s, .int .u8 e.toNat, vv] W fun x w' => x = .returned (.tuple #[.string (bs (wordL e (prL vs) (un s)).2), erV (wordL e (prL vs) (un s)).1]) ∧ Below W.heap.size W w' := by
  have hN := newReader_p s e 0 W
  have hX := fun W2 R v (h : Rd W2 R s e 0 v [0]) (hB : Below W.heap.size W W2) (hR : ∀ k, rdS R v k → W.heap.size ≤ k) => expanded_p W2 W.heap.size R s e v vv 0 vs (by decide) h hB.size hR ((hv.in).keep (fun j hj => hB.block j hj)) hf hs
  have HP : Hid (wordL e (prL vs) (un s) = ansL (prL vs) (eachL e [0] (un s))) := rfl
  generalize ansL (prL vs) (eachL e [0] (un s)) = AN at *
  generalize wordL e (prL vs) (un s) = WL at *
  clear hv
  go_enter Tryz.func82, Tryz.ntmps82
  go_wp2_with (first
    | (go_at_call 95; refine hN.mono ?_; rintro x w2 ⟨R, v, rfl, hr, hR, hb⟩)
    | (go_at_call 94; refine (hX _ _ _ hr hb hR).mono ?_; rintro x w3 ⟨rfl, hb3⟩))
  go_ret2
  exact ⟨by rw [HP.out]; rfl, hb.trans hb3⟩
set_option maxHeartbeats 2000000 in
set_option maxRecDepth 100000 in
theorem doc_p (s : ByteArray) (e : UInt8) (vs : List PrZ) (vv : Value) (W : World) (hv : PrsAt W vv vs) (hf : FewQ vs) (hs : s.size ≤ 1099511627774) :
    Calls Tryz.prog 92 #[.string s, .int .u8 e.toNat, vv] W fun x w' => x = .returned (.tuple #[.string (bs (docL e (prL vs) (un s)).2), erV (docL e (prL vs) (un s)).1]) ∧ Below W.heap.size W w' := by
  have hN := newReader_p s e 1 W
  have hX := fun W2 R v (h : Rd W2 R s e 0 v [1]) (hB : Below W.heap.size W W2) (hR : ∀ k, rdS R v k → W.heap.size ≤ k) => expanded_p W2 W.heap.size R s e v vv 1 vs (by decide) h hB.size hR ((hv.in).keep (fun j hj => hB.block j hj)) hf hs
  have HP : Hid (docL e (prL vs) (un s) = ansL (prL vs) (eachL e [1] (un s))) := rfl
  generalize ansL (prL vs) (eachL e [1] (un s)) = AN at *
  generalize docL e (prL vs) (un s) = WL at *
  clear hv
  go_enter Tryz.func92, Tryz.ntmps92
  go_wp2_with (first
    | (go_at_call 95; refine hN.mono ?_; rintro x w2 ⟨R, v, rfl, hr, hR, hb⟩)
    | (go_at_call 94; refine (hX _ _ _ hr hb hR).mono ?_; rintro x w3 ⟨rfl, hb3⟩))
  go_ret2
  exact ⟨by rw [HP.out]; rfl, hb.trans hb3⟩
end Go.Proofs.YtbmakfdljddhcaaGreatDoor
