/- (*Tree).Take. -/
import Derived.Test.YtcefgnjgcnboeaaGreatDoorGrowW
import Derived.Deep.CutRange
import Derived.Deep.RegionHeld3

namespace Go.Proofs.YtcefgnjgcnboeaaGreatDoor
open Go Go.RowKit Go.Shelf
attribute [local go_sem] Oper.semAt_some

theorem below_c (b : Nat) (w : World) : Calls Tryz.prog 27 #[.pointer (some ⟨b, 0, none⟩)] w fun e w' => e = .returned (.func (.func 44) #[] #[.pointer (some ⟨w.heap.size, 0, none⟩)]) ∧ w' = w.alloc (.cells #[.pointer (some ⟨b, 0, none⟩)] 65) := by
  go_enter Tryz.func27, Tryz.ntmps27
  go_wp2
  go_ret
  exact ⟨rfl, rfl⟩
set_option maxRecDepth 100000 in
set_option maxHeartbeats 4000000 in
theorem below_gives (base N n₀ : Nat) (F : Pic) (L : List Ent) (hSay : Says F L) (hN : N ≤ 1073741824) (hIn : ∀ ns x, F ns = some x → x.b < n₀ ∧ ∀ m, x.m = some m → m < n₀) (ns : List (List UInt8)) (nd : Nd) (hnd : F ns = some nd)
    (B : Nat) (w : World) (hT : TreeW w Tryz.prog 9 130 base N F) (hn₀ : n₀ ≤ w.heap.size) (hB : w.cell? ⟨B, 0, none⟩ = some (.pointer (some ⟨nd.b, 0, none⟩))) :
    GivesE Tryz.prog 44 #[.pointer (some ⟨B, 0, none⟩)] (underL L ns) n₀ w := by
  intro n l J S W hW hJ hS hR h0
  have hBlt := World.block_lt_of_cell? w _ hB
  have hBW : W.cell? ⟨B, 0, none⟩ = some (.pointer (some ⟨nd.b, 0, none⟩)) := (hW.cell (p := ⟨B, 0, none⟩) hBlt).trans hB
  have hsz := hW.size
  have hH := fun m => hand_p base N n₀ F L hSay hN hIn ns nd hnd m l (underL L ns) J [] S W (hT.belowN hIn (hW.mono hn₀)) (by omega) hS hJ hR h0 (by simp)
  refine callsIn_of_wp Tryz.func44 rfl trivial ?_ rfl
  simp only [Tryz.ntmps44, List.size_toArray, List.length_cons, List.length_nil, Nat.reduceAdd, Nat.reduceSub, Array.replicate_succ, Array.replicate_zero, List.push_toArray, List.append_toArray, List.nil_append, List.cons_append]
  gi_wp2_with (refine ⟨trivial, wd _, ?_⟩; gi_at_call 45; refine (hH _).mono ?_; rintro e W2 ⟨rfl, S2, hj2, hr2⟩)
  go_end0
  exact ⟨⟨_, rfl⟩, S2, by simpa using hj2, hr2⟩

theorem wpListIn_append_at {F : Fence} {n : Nat} {P : Program} (w : World) {ops : Array Oper} {rest : List Oper} {o : Oper} {a : Act} {Q : Exit → Act → World → Prop}
    (hg : o.guard = none) (s x : Operand) (t : TypeId) (hop : o.op = Op.call { callee := Callee.builtin Builtin.append, args := #[s, x], argTypes := #[t, t] })
    (base : Nat) (e : TypeId) (i : TypeInfo) (z : Value) (size bytes : Nat) (h1 : P.underlying t = some (.slice e)) (h2 : P.info? e = some i) (h3 : i.zero = some z) (h4 : i.size = size) (h5 : i.bytes = bytes) (h6 : z.cells.size = size) (h7 : 0 < size)
    (v : Value) (k : Nat) (xs : List Value) (hs : a.eval s = v) (hown : w.ownsRow base e size v k xs) (ad : Addr) (m c : Nat) (news : List Value) (hx : a.eval x = .slice (some ad) m c) (hn : news.length = m * size)
    (hc : ∀ j u, news[j]? = some u → w.cell? (ad.add j) = some u) (h1c : ∀ u ∈ news, u.oneCell' = true) (b1 : k + m ≤ maxLen) (b2 : (k + m) * bytes ≤ 140737488355328) (b3 : base ≤ w.heap.size)
    (hK : ∀ v' w', w'.ownsRow base e size v' (k + m) (xs ++ news) → w.grownBy w' v.ownBlock → (v'.ownBlock = v.ownBlock ∨ v'.ownBlock = some w.heap.size) → wpListIn F n P ops Q rest (a.put o.dst v') w') :
    wpListIn F n P ops Q (o :: rest) a w := by
  refine wpListIn_plain hg fun K hK' => ?_
  obtain ⟨v', w', hrun, r1, r2, _, r4⟩ := run_append_own_at (P := P) w base t o.type e i z size bytes h1 h2 h3 h4 h5 h6 h7 v k xs hown ad m c news hn hc h1c b1 b2 b3
  unfold Oper.wpIn
  refine ⟨?_, ?_⟩
  · simp [Oper.about, hop, resolve, Target.leads, Sem.run_pure]
  · rw [Oper.semAt_plain F _ _ (by rw [hop]; intro c hc'; cases hc')]
    simp [execOp, hop, resolve, invoke, builtin, hs, hx, hrun, Result.andThen]
    exact hK' _ _ (hK v' w' r1 r2 r4)

/-- What a list that is gathered says: its box, its row. -/
def Gath (bx base : Nat) (f : Ent → Ent) (pre : List Ent) (S : Nat → Prop) (W : World) : Prop :=
  ∃ v, Boxed W bx 29 v ∧ W.ownsRow base 52 5 v pre.length (ecells (pre.map f)) ∧ bx < base ∧ S = fun k => k = bx ∨ v.ownBlock = some k
theorem row_local {A B : World} {base : Nat} {e : TypeId} {size n : Nat} {v : Value} {xs : List Value} (h : A.ownsRow base e size v n xs) (hk : ∀ k, v.ownBlock = some k → B.heap[k]? = A.heap[k]?) : B.ownsRow base e size v n xs := by
  refine ⟨h.1, ?_⟩
  rcases h.2 with hn | ⟨g, cap, cur, rfl, hg, hgg, rest⟩
  · exact .inl hn
  · exact .inr ⟨g, cap, cur, rfl, hg, (hk g rfl).trans hgg, rest⟩
theorem row_shape {A : World} {base : Nat} {e : TypeId} {size n : Nat} {v : Value} {xs : List Value} (h : A.ownsRow base e size v (n + 1) xs) : ∃ g cap, v = .slice (some ⟨g, 0, none⟩) (n + 1) cap := by
  rcases h.2 with ⟨_, h0⟩ | ⟨g, cap, cur, rfl, _⟩
  · omega
  · exact ⟨g, cap, rfl⟩
theorem gath_local (bx base : Nat) (f : Ent → Ent) : LocalE (Gath bx base f) := by
  refine ⟨?_, ?_⟩
  · rintro pre S A B ⟨v, h1, h2, h3, rfl⟩ _ hk
    exact ⟨v, (hk bx (.inl rfl)).trans h1, row_local h2 (fun k hv => hk k (.inr hv)), h3, rfl⟩
  · rintro pre S A ⟨v, h1, h2, h3, rfl⟩ k hk
    rcases hk with rfl | hk
    · exact h1.lt
    · exact (h2.lt k hk).2
/-- An entry is appended to what is gathered. -/
theorem gath_step {bx base : Nat} {f : Ent → Ent} {pre : List Ent} {x : Ent} {S : Nat → Prop} {b : Nat} {W w1 : World} {v v1 : Value} {o : Obj} (hv : Boxed W bx 29 v) (hrow : W.ownsRow base 52 5 v pre.length (ecells (pre.map f))) (hbb : bx < base) (hS : S = fun k => k = bx ∨ v.ownBlock = some k)
    (hown : w1.ownsRow base 52 5 v1 (pre.length + 1) (ecells (pre.map f) ++ ecs (f x))) (hg : (W.alloc o).grownBy w1 v.ownBlock) (hat : v1.ownBlock = v.ownBlock ∨ v1.ownBlock = some (W.alloc o).heap.size) :
    Boxed w1 bx 29 v ∧ ∃ S2, Gath bx base f (pre ++ [x]) S2 (w1.setCell ⟨bx, 0, none⟩ v1) ∧ Rnd (fun k => S k ∨ k = b) S2 W (w1.setCell ⟨bx, 0, none⟩ v1) := by
  have hlt := hv.lt
  have hne : ∀ k, v.ownBlock = some k → base ≤ k ∧ k < W.heap.size := hrow.lt
  have hne1 : ∀ k, v1.ownBlock = some k → base ≤ k ∧ k < w1.heap.size := hown.lt
  have hsg := hg.size
  simp at hsg
  have hbx : some bx ≠ v.ownBlock := fun e => by have := (hne bx e.symm).1; omega
  have hv1 : Boxed w1 bx 29 v := (hg.block bx (by simp; omega) hbx).trans ((Below.heap_alloc W o bx hlt).trans hv)
  refine ⟨hv1, fun k => k = bx ∨ v1.ownBlock = some k, ⟨v1, Boxed.set _ hv1, ?_, hbb, rfl⟩, ⟨hg.os, hg.tape, hg.output, by simp [World.setCell]; omega, fun k hk hn => ?_, fun k hk => ?_⟩⟩
  · refine row_local (A := w1) ?_ (fun k hk => Below.heap_setCell _ _ _ _ (by have := (hne1 k hk).1; show k ≠ bx; omega))
    rw [List.length_append, List.map_append, ecells_append]
    simpa [ecells] using hown
  · have k1 : k ≠ bx := fun e => hn (.inl (by rw [hS]; exact .inl e))
    have k2 : some k ≠ v.ownBlock := fun e => hn (.inl (by rw [hS]; exact .inr e.symm))
    exact (Below.heap_setCell _ _ _ _ k1).trans ((hg.block k (by simp; omega) k2).trans (Below.heap_alloc W o k hk))
  · rcases hk with rfl | hk
    · exact .inl (.inl (by rw [hS]; exact .inl rfl))
    · rcases hat with h1 | h1
      · exact .inl (.inl (by rw [hS]; exact .inr (by rw [← h1]; exact hk)))
      · have h2 := (hne1 k hk).2
        rw [h1] at hk
        have h3 : W.heap.size + 1 = k := by simpa using hk
        exact .inr ⟨by omega, by simp [World.setCell]; omega⟩

set_option maxRecDepth 100000 in
set_option maxHeartbeats 4000000 in
theorem appendSeq_p (n g : Nat) (lb : Array Value) (xs : List Ent) (n₀ : Nat) (w : World) (eg : ∀ args w, (callFunc g args).run Tryz.prog w = .ok (.enter g args) w) (hseq : GivesE Tryz.prog g lb xs n₀ w) (hn₀ : n₀ ≤ w.heap.size) (hl : xs.length ≤ 1073741824) :
    CallsIn Fence.wide n Tryz.prog 43 #[.slice none 0 0, .func (.func g) #[] lb] w fun e w' => ∃ v, e = .returned v ∧ w'.ownsRow w.heap.size 52 5 v xs.length (ecells xs) ∧ Below w.heap.size w w' := by
  obtain ⟨i0, hi, hz0, hz1, hz2⟩ := info_parts info_ent
  refine callsIn_of_wp_marks Tryz.func43 rfl trivial ?_ rfl
  simp only [Tryz.ntmps43, List.size_toArray, List.length_cons, List.length_nil, Nat.reduceAdd, Nat.reduceSub, Array.replicate_succ, Array.replicate_zero, List.push_toArray, List.append_toArray, List.nil_append, List.cons_append]
  gi_wp2
  have hbA : Below w.heap.size w (w.alloc (.cells #[.slice none 0 0] 29)) := (Below.refl _ _).alloc (Nat.le_refl _) _
  have hbox : Boxed (w.alloc (.cells #[.slice none 0 0] 29)) w.heap.size 29 (.slice none 0 0) := Boxed.new w _ _
  have hszA : (w.alloc (.cells #[.slice none 0 0] 29)).heap.size = w.heap.size + 1 := by simp
  generalize w.alloc (.cells #[.slice none 0 0] 29) = WA at *
  refine range_lawE (xs := xs) (n₀ := n₀) rfl eg hseq (by omega) hbA (Gath w.heap.size (w.heap.size + 1) id) (fun k => k = w.heap.size ∨ (Value.slice none 0 0).ownBlock = some k) (gath_local _ _ _) (fun k hk => by
      rcases hk with rfl | hk
      · exact hn₀
      · simp [Value.ownBlock] at hk) ⟨.slice none 0 0, hbox, World.ownsRow_nil _ _ _ _, by omega, rfl⟩ 52
    (fun x b => { tmps := #[.slice none 0 0, .func (.func g) #[] lb, .pointer (some ⟨w.heap.size, 0, none⟩), undef, .slice none 0 0, .pointer (some ⟨b, 0, none⟩), .func (.func g) #[] lb, entV x, undef, undef, undef, undef, undef], defers := [] }) ?assign ?body ?done
  case assign =>
    intro m l x W K hK
    unfold entV at hK ⊢
    gi_wp2
    exact hK
  case body =>
    rintro m l pre x S b W ⟨v, hv, hrow, hbb, hS⟩ hpx hb hSb hbs
    have hlen : pre.length < xs.length := by have := hpx.length_le; simp at this; omega
    have HS : Hid (S = fun k => k = w.heap.size ∨ v.ownBlock = some k) := hS
    have hec : EntC W b 0 x := by
      have h : ∀ (j : Nat) (u : Value), (#[.string x.path, .int .i64 x.kind, .int .i64 x.mode, .string x.data, .string x.link] : Array Value)[j]? = some u → W.cell? ⟨b, j, none⟩ = some u := fun j u hu => by
        unfold World.cell?
        simp only [hb]; exact hu
      exact ⟨h 0 _ rfl, h 1 _ rfl, h 2 _ rfl, h 3 _ rfl, h 4 _ rfl⟩
    obtain ⟨c0, c1, c2, c3, c4⟩ := hec
    have hvc := hv.cell
    have hWs : w.heap.size + 1 ≤ W.heap.size := by have := (Array.getElem?_eq_some_iff.1 hb).1; omega
    clear hS hb hpx hbox hbA
    unfold entV
    gi_wp2_with (gi_at_builtin; refine wpListIn_append_at _ rfl _ _ 29 rfl (w.heap.size + 1) 52 i0 (.agg #[.string ⟨#[]⟩, .int .i64 0, .int .i64 0, .string ⟨#[]⟩, .string ⟨#[]⟩]) 5 64 Tryz.underlying29 hi hz0 hz1 hz2 rfl (by decide) _ _ _ rfl (hrow.alloc _) ⟨W.heap.size, 0, none⟩ 1 1 (ecs x) rfl rfl (ent_cells (ent_new W _ x)) (ent_one x) (by unfold maxLen; omega) (by omega) (by simp; omega) ?_; intro v1 w1 hown1 hgrow1 hat1; obtain ⟨g1, cap1, rfl⟩ := row_shape hown1; obtain ⟨hv1, S2, hg2, hr2⟩ := gath_step (b := b) hv hrow hbb HS.out hown1 hgrow1 hat1; have hvc1 := hv1.cell; have hvf1 := hv1.frozen)
    exact ⟨S2, hg2, hr2⟩
  case done =>
    rintro D S W hD ⟨v, hv, hrow, hbb, hS⟩ hr hSD hK
    have hvc := hv.cell
    have HS : Hid (S = fun k => k = w.heap.size ∨ v.ownBlock = some k) := hS
    have hB : Hid (Below w.heap.size w W) := hbA.trans ⟨hr.os, hr.tape, hr.output, hr.size, fun k hk => hr.same k (by omega) (fun h => by
      rcases h with h | h
      · omega
      · simp [Value.ownBlock] at h)⟩
    clear hS hbA hr hbox
    gi_wp2
    refine ⟨by simp, .inl ⟨_, _, rfl, run_takeDeferred hK, ?_⟩⟩
    have hDl := (Array.getElem?_eq_some_iff.1 hK).1
    have hsw := hB.out.size
    refine ⟨v, by simp [results, Tryz.f43, go_sem], v, rfl, ?_, hB.out.trans (putLoop_below _ hK (by omega))⟩
    have hrow2 : (W.putObj D (.deferred none)).ownsRow (w.heap.size + 1) 52 5 v xs.length (ecells (xs.map id)) := row_local hrow (fun k hk => World.putObj_heap_other (fun e => hSD (by rw [HS.out]; exact .inr (e ▸ hk))))
    rw [List.map_id] at hrow2
    refine ⟨hrow2.1, ?_⟩
    rcases hrow2.2 with hn | ⟨g2, cap, cur, e1, e2, rest⟩
    · exact .inl hn
    · exact .inr ⟨g2, cap, cur, e1, by omega, rest⟩
theorem collect_p (g : Nat) (lb : Array Value) (xs : List Ent) (n₀ : Nat) (w : World) (eg : ∀ args w, (callFunc g args).run Tryz.prog w = .ok (.enter g args) w) (hseq : GivesE Tryz.prog g lb xs n₀ w) (hn₀ : n₀ ≤ w.heap.size) (hl : xs.length ≤ 1073741824) :
    Calls Tryz.prog 26 #[.func (.func g) #[] lb] w fun e w' => ∃ v, e = .returned v ∧ w'.ownsRow w.heap.size 52 5 v xs.length (ecells xs) ∧ Below w.heap.size w w' := by
  have hA := callsIn_wide.1 (appendSeq_p 5 g lb xs n₀ w eg hseq hn₀ hl)
  go_enter Tryz.func26, Tryz.ntmps26
  go_wp2_with (go_at_call 43; refine hA.mono ?_; rintro e w1 ⟨v, rfl, h1, h2⟩)
  go_ret
  exact ⟨v, rfl, h1, h2⟩
end Go.Proofs.YtcefgnjgcnboeaaGreatDoor

namespace Go.Proofs.YtcefgnjgcnboeaaGreatDoor
open Go Go.RowKit Go.Shelf
attribute [local go_sem] Oper.semAt_some

theorem TreeOf.inB {W : World} {tb base : Nat} {F : Pic} {L : List Ent} (h : TreeOf W tb base F L) : ∀ ns x, F ns = some x → x.b < W.heap.size ∧ ∀ m, x.m = some m → m < W.heap.size :=
  fun _ _ hx => ⟨h.at'.tree.lt hx, fun _ hm => h.at'.tree.mlt hx hm⟩
theorem eg_below : ∀ args w, (callFunc 44 args).run Tryz.prog w = .ok (.enter 44 args) w := enters_of Tryz.func44 (by kernel_rfl) rfl
theorem TreeOf.gives {W : World} {tb base : Nat} {F : Pic} {L : List Ent} (h : TreeOf W tb base F L) {ns : List (List UInt8)} {nd : Nd} (hnd : F ns = some nd) :
    GivesE Tryz.prog 44 #[.pointer (some ⟨W.heap.size, 0, none⟩)] (underL L ns) W.heap.size (W.alloc (.cells #[.pointer (some ⟨nd.b, 0, none⟩)] 65)) :=
  below_gives base 4096 W.heap.size F L h.says (by omega) h.inB ns nd hnd W.heap.size _ (h.at'.tree.alloc _) (by simp) (Boxed.new W _ _).cell
theorem under_le (L : List Ent) (ns : List (List UInt8)) : (underL L ns).length ≤ L.length := List.length_filter_le _ _
set_option maxRecDepth 100000 in
theorem list_p (tb base : Nat) (F : Pic) (L : List Ent) (w : World) (h : TreeOf w tb base F L) : Calls Tryz.prog 10 #[.pointer (some ⟨tb, 0, none⟩)] w fun e w' => ∃ v, e = .returned v ∧ w'.ownsRow w.heap.size 52 5 v L.length (ecells L) ∧ Below w.heap.size w w' := by
  obtain ⟨rt, rm, hrt, hrm, hhead⟩ := h.at'.root
  have hc0 := (head_cells hhead).1
  have hC := collect_p _ _ _ _ _ eg_below (h.gives hrt) (by simp) (by have := under_le L []; have := h.few; omega)
  rw [h.says.all] at hC
  have hbA : Below w.heap.size w (w.alloc (.cells #[.pointer (some ⟨rt.b, 0, none⟩)] 65)) := (Below.refl _ _).alloc (Nat.le_refl _) _
  clear hrt hrm hhead
  go_enter Tryz.func10, Tryz.ntmps10
  go_wp2_with (first | (go_at_call 27; refine (below_c _ _).mono ?_; rintro e w1 ⟨rfl, rfl⟩) | (go_at_call 26; refine hC.mono ?_; rintro e w1 ⟨v, rfl, h1, h2⟩))
  go_ret
  refine ⟨v, rfl, ⟨h1.1, ?_⟩, hbA.trans (h2.mono (by simp))⟩
  rcases h1.2 with hn | ⟨g2, cap, cur, e1, e2, rest⟩
  · exact .inl hn
  · exact .inr ⟨g2, cap, cur, e1, by simp at e2; omega, rest⟩
theorem results_c2 {P : Program} {fn : Func} {p u : Tmp} {ty : TypeId} (h : fn.results = #[.cell p ty, .tmp u]) (tmps : Array Value) (w : World) (g : Nat) (t : TypeId) (cs : Array Value) (d : TypeDesc)
    (hp : tmps.getD p undef = .pointer (some ⟨g, 0, none⟩)) (hg : w.heap[g]? = some (.cells cs t (0, 0)))
    (hu : P.underlying ty = some d) (hd : (match d with | .struct _ | .array _ _ => true | _ => false) = true) (hi : (P.info? ty).map (·.size) = some cs.size) :
    (results fn tmps).run P w = .ok (.tuple #[.agg cs, tmps.getD u undef]) w := by
  have hp' : tmps[p]?.getD undef = .pointer (some ⟨g, 0, none⟩) := by simpa using hp
  simp [results, h, hp', asAddr, run_loadVar_row w g t ty cs (0, 0) d hg hu hd hi]
theorem info_five (a b c : ByteArray) (i j : Int) : (Tryz.prog.info? 52).map (·.size) = some (#[Value.string a, .int .i64 i, .int .i64 j, .string b, .string c] : Array Value).size := by
  show _ = some 5
  kernel_rfl
theorem one_five (a b c : ByteArray) (i j : Int) : (#[Value.string a, .int .i64 i, .int .i64 j, .string b, .string c] : Array Value).all (·.oneCell') = true := by simp [Value.oneCell']
theorem below_setRow' {B : Nat} {a w : World} (h : Below B a w) {g : Nat} (hg : B ≤ g) (cs : Array Value) : Below B a (w.setRow g cs) := h.trans ⟨rfl, rfl, rfl, by simp [World.setRow], fun k hk => setRow_other w g k cs (by omega)⟩
/-- What stands at a text. -/
theorem Says.at_text {F : Pic} {L : List Ent} (h : Says F L) {p : ByteArray} (hp : p.size ≠ 0) : (F (namesP p) = none ∧ L.find? (pathIs p) = none) ∨ ∃ x, F (namesP p) = some x ∧ L.find? (pathIs p) = some x.e := by
  have := h.find p hp
  cases hx : F (namesP p) with
  | none => rw [hx] at this; exact .inl ⟨rfl, this.symm⟩
  | some x => rw [hx] at this; exact .inr ⟨x, rfl, this.symm⟩
def getV (o : Option Ent) : Value := match o with
  | none => .tuple #[.agg #[.string ⟨#[]⟩, .int .i64 0, .int .i64 0, .string ⟨#[]⟩, .string ⟨#[]⟩], .bool false]
  | some x => .tuple #[.agg #[.string x.path, .int .i64 x.kind, .int .i64 x.mode, .string x.data, .string x.link], .bool true]
def getE (L : List Ent) (p : ByteArray) : Option Ent := if p.size = 0 then none else L.find? (pathIs p)
set_option maxRecDepth 100000 in
theorem get_p (tb base : Nat) (F : Pic) (L : List Ent) (p : ByteArray) (hp : p.size ≤ 9223372036854775807) (w : World) (h : TreeOf w tb base F L) : Calls Tryz.prog 72 #[.pointer (some ⟨tb, 0, none⟩), .string p] w fun e w' => e = .returned (getV (getE L p)) ∧ Below w.heap.size w w' := by
  have hbZ : Below w.heap.size w (w.alloc (.cells #[.string ⟨#[]⟩, .int .i64 0, .int .i64 0, .string ⟨#[]⟩, .string ⟨#[]⟩] 52)) := (Below.refl _ _).alloc (Nat.le_refl _) _
  have hL : ∀ k, ((w.alloc (.cells #[.string ⟨#[]⟩, .int .i64 0, .int .i64 0, .string ⟨#[]⟩, .string ⟨#[]⟩] 52)).drewN k).heap[w.heap.size]? = some (.cells #[.string ⟨#[]⟩, .int .i64 0, .int .i64 0, .string ⟨#[]⟩, .string ⟨#[]⟩] 52 (0, 0)) := fun _ => World.alloc_heap_new w _
  have h' := h.below hbZ
  obtain ⟨rt, rm, hrt, hrm, hhead⟩ := h'.at'.root
  have hc0 := (head_cells hhead).1
  have hA := at_p tb base 4096 F rt p _ hp hrt hc0 h'.at'.tree
  clear hrm hhead hc0
  by_cases h0 : p.size = 0
  · have he : p.toList.isEmpty = true := (isEmpty_iff p).2 h0
    have HG : Hid (getE L p = none) := if_pos h0
    have hn : namesP p = [] := if_pos h0
    rw [hn, hrt] at hA
    simp only [Option.map, toPtr] at hA
    clear hrt hn h0
    go_enter Tryz.func72, Tryz.ntmps72
    go_wp2_with (first | (go_at_call 86; refine hA.mono ?_; rintro e w1 ⟨k, rfl, rfl⟩; have hL1 := hL k) | (refine wpList_store_row rfl 52 (.tmp 4) (.tmp 16) rfl w.heap.size #[.string ⟨#[]⟩, .int .i64 0, .int .i64 0, .string ⟨#[]⟩, .string ⟨#[]⟩] rfl rfl 52 #[.string ⟨#[]⟩, .int .i64 0, .int .i64 0, .string ⟨#[]⟩, .string ⟨#[]⟩] hL1 (info_five _ _ _ _ _) rfl (one_five _ _ _ _ _) ?_))
    refine bodyPost_ret (results_c2 rfl _ _ w.heap.size 52 #[.string ⟨#[]⟩, .int .i64 0, .int .i64 0, .string ⟨#[]⟩, .string ⟨#[]⟩] _ rfl (setRow_heap _ w.heap.size _ _ _ (0, 0) hL1) Tryz.underlying52 rfl (info_five _ _ _ _ _)) rfl ?_
    exact ⟨by rw [HG.out]; rfl, below_setRow' (below_drewN hbZ k) (Nat.le_refl _) _⟩
  · have he : p.toList.isEmpty = false := (isEmpty_false p).2 (by omega)
    have HE : Hid (getE L p = L.find? (pathIs p)) := if_neg h0
    rcases h.says.at_text h0 with ⟨h1, h2⟩ | ⟨x, h1, h2⟩
    · have HG : Hid (getE L p = none) := by unfold Hid; rw [HE.out, h2]
      rw [h1] at hA
      simp only [Option.map, toPtr] at hA
      clear hrt h0 h1 h2 HE
      go_enter Tryz.func72, Tryz.ntmps72
      go_wp2_with (first | (go_at_call 86; refine hA.mono ?_; rintro e w1 ⟨k, rfl, rfl⟩; have hL1 := hL k) | (refine wpList_store_row rfl 52 (.tmp 4) (.tmp 16) rfl w.heap.size #[.string ⟨#[]⟩, .int .i64 0, .int .i64 0, .string ⟨#[]⟩, .string ⟨#[]⟩] rfl rfl 52 #[.string ⟨#[]⟩, .int .i64 0, .int .i64 0, .string ⟨#[]⟩, .string ⟨#[]⟩] hL1 (info_five _ _ _ _ _) rfl (one_five _ _ _ _ _) ?_))
      refine bodyPost_ret (results_c2 rfl _ _ w.heap.size 52 #[.string ⟨#[]⟩, .int .i64 0, .int .i64 0, .string ⟨#[]⟩, .string ⟨#[]⟩] _ rfl (setRow_heap _ w.heap.size _ _ _ (0, 0) hL1) Tryz.underlying52 rfl (info_five _ _ _ _ _)) rfl ?_
      exact ⟨by rw [HG.out]; rfl, below_setRow' (below_drewN hbZ k) (Nat.le_refl _) _⟩
    · have HG : Hid (getE L p = some x.e) := by unfold Hid; rw [HE.out, h2]
      have hnc := (h'.at'.tree.node _ x h1).2
      have hcx : ∀ k j v, (ncells x)[j]? = some v → ((w.alloc (.cells #[.string ⟨#[]⟩, .int .i64 0, .int .i64 0, .string ⟨#[]⟩, .string ⟨#[]⟩] 52)).drewN k).cell? ⟨x.b, j, none⟩ = some v := fun k j v hv => node_cell (W := (w.alloc (.cells #[.string ⟨#[]⟩, .int .i64 0, .int .i64 0, .string ⟨#[]⟩, .string ⟨#[]⟩] 52)).drewN k) hnc hv
      rw [h1] at hA
      simp only [Option.map, toPtr] at hA
      clear hrt h0 h1 h2 HE hnc
      go_enter Tryz.func72, Tryz.ntmps72
      go_wp2_with (first | (go_at_call 86; refine hA.mono ?_; rintro e w1 ⟨k, rfl, rfl⟩; have hL1 := hL k; have n0 := hcx k 0 _ rfl; have n1 := hcx k 1 _ rfl; have n2 := hcx k 2 _ rfl; have n3 := hcx k 3 _ rfl; have n4 := hcx k 4 _ rfl) | (refine wpList_store_row rfl 52 (.tmp 4) (.tmp 20) rfl w.heap.size #[.string x.e.path, .int .i64 x.e.kind, .int .i64 x.e.mode, .string x.e.data, .string x.e.link] rfl rfl 52 #[.string ⟨#[]⟩, .int .i64 0, .int .i64 0, .string ⟨#[]⟩, .string ⟨#[]⟩] hL1 (info_five _ _ _ _ _) rfl (one_five _ _ _ _ _) ?_))
      refine bodyPost_ret (results_c2 rfl _ _ w.heap.size 52 #[.string x.e.path, .int .i64 x.e.kind, .int .i64 x.e.mode, .string x.e.data, .string x.e.link] _ rfl (setRow_heap _ w.heap.size _ _ _ (0, 0) hL1) Tryz.underlying52 rfl (info_five _ _ _ _ _)) rfl ?_
      exact ⟨by rw [HG.out]; rfl, below_setRow' (below_drewN hbZ k) (Nat.le_refl _) _⟩
/-- What Put answers. -/
def putAll (L : List Ent) (x : Ent) : Int := if wrongN x ≠ 0 then wrongN x else putN L x
set_option maxRecDepth 100000 in
theorem put_p (tb base : Nat) (F : Pic) (L : List Ent) (x : Ent) (hp : x.path.size < 1152921504606846976) (w : World) (h : TreeOf w tb base F L) (hbase : base ≤ w.heap.size) :
    Calls Tryz.prog 59 #[.pointer (some ⟨tb, 0, none⟩), .agg #[.string x.path, .int .i64 x.kind, .int .i64 x.mode, .string x.data, .string x.link]] w fun e w' => e = .returned (errE (putAll L x)) ∧ Below base w w' ∧
      ((putAll L x ≠ 0 ∧ Below w.heap.size w w') ∨ (putAll L x = 0 ∧ ∃ F', TreeOf w' tb base F' (laidL L x) ∧ Rnd (MineT tb F) (MineT tb F') w w')) := by
  have bE : Below w.heap.size w (w.alloc (.cells #[.string x.path, .int .i64 x.kind, .int .i64 x.mode, .string x.data, .string x.link] 52)) := (Below.refl _ _).alloc (Nat.le_refl _) _
  have HEC : Hid (EntC (w.alloc (.cells #[.string x.path, .int .i64 x.kind, .int .i64 x.mode, .string x.data, .string x.link] 52)) w.heap.size 0 x) := ent_new w _ x
  by_cases hw : wrongN x = 0
  · have HW : Hid (errE (wrongN x) = .nilIface) := by unfold Hid; rw [hw]; rfl
    have HW0 : Hid (wrongN x = 0) := hw
    have HPA : Hid (putAll L x = putN L x) := by unfold Hid putAll; rw [if_neg (by simpa using hw)]
    clear hw
    go_enter Tryz.func59, Tryz.ntmps59
    go_wp2_with (first | (go_at_call 55; refine (wrong_p x _ hp).mono ?_; rintro e w2 ⟨rfl, hb2'⟩; rw [HW.out]; have hb2 := below_join bE hb2'; obtain ⟨c0, c1, c2, c3, c4⟩ := HEC.out.below hb2') | (go_at_call 57; refine (lay_t tb base F L x _ (h.below hb2) HW0.out).mono ?_; rintro e w3 ⟨rfl, hr3⟩))
    go_ret
    rw [HPA.out]
    have hs2 := hb2.size
    refine ⟨rfl, ?_, ?_⟩
    · rcases hr3 with ⟨_, h3⟩ | ⟨_, h3, _⟩
      · exact (hb2.mono hbase).trans (h3.mono (by omega))
      · exact (hb2.mono hbase).trans h3
    · rcases hr3 with ⟨h3, h4⟩ | ⟨h3, _, F', h5, h6⟩
      · exact .inl ⟨h3, below_join hb2 h4⟩
      · exact .inr ⟨h3, F', h5, (Rnd.of_below hb2).trans h6⟩
  · have HW : Hid (errE (wrongN x) = .iface 56 (.int .i64 (wrongN x))) := errE_some hw
    have HPA : Hid (putAll L x = wrongN x ∧ wrongN x ≠ 0) := ⟨if_pos hw, hw⟩
    clear hw
    go_enter Tryz.func59, Tryz.ntmps59
    go_wp2_with (go_at_call 55; refine (wrong_p x _ hp).mono ?_; rintro e w2 ⟨rfl, hb2'⟩; rw [HW.out]; have hb2 := below_join bE hb2')
    go_ret
    rw [HPA.out.1]
    exact ⟨congrArg Ending.returned HW.out.symm, hb2.mono hbase, .inl ⟨HPA.out.2, hb2⟩⟩
end Go.Proofs.YtcefgnjgcnboeaaGreatDoor

namespace Go.Proofs.YtcefgnjgcnboeaaGreatDoor
open Go Go.RowKit Go.Shelf
attribute [local go_sem] Oper.semAt_some

set_option maxRecDepth 100000 in
theorem take_15 (tb : Nat) (p : ByteArray) (hp : p.size = 0) (w : World) : Calls Tryz.prog 75 #[.pointer (some ⟨tb, 0, none⟩), .string p] w fun e w' => e = .returned (.tuple #[.int .i64 0, errE 15]) ∧ Below w.heap.size w w' := by
  have he : p.toList.isEmpty = true := (isEmpty_iff p).2 hp
  go_enter Tryz.func75, Tryz.ntmps75
  go_wp2
  go_ret2
  exact ⟨rfl, Below.refl _ _⟩
set_option maxRecDepth 100000 in
theorem take_10 (tb base : Nat) (F : Pic) (L : List Ent) (p : ByteArray) (hp : p.size ≤ 9223372036854775807) (h0 : p.size ≠ 0) (w : World) (h : TreeOf w tb base F L) (hf : L.find? (pathIs p) = none) : Calls Tryz.prog 75 #[.pointer (some ⟨tb, 0, none⟩), .string p] w fun e w' => e = .returned (.tuple #[.int .i64 0, errE 10]) ∧ Below w.heap.size w w' := by
  have he : p.toList.isEmpty = false := (isEmpty_false p).2 (by omega)
  obtain ⟨rt, rm, hrt, hrm, hhead⟩ := h.at'.root
  have hA := at_p tb base 4096 F rt p w hp hrt (head_cells hhead).1 h.at'.tree
  have hFn : F (namesP p) = none := by
    rcases h.says.at_text h0 with ⟨h1, _⟩ | ⟨x, _, h2⟩
    · exact h1
    · rw [h2] at hf; cases hf
  rw [hFn] at hA
  simp only [Option.map, toPtr] at hA
  clear hrt hrm hhead hFn hf
  go_enter Tryz.func75, Tryz.ntmps75
  go_wp2_with (go_at_call 86; refine hA.mono ?_; rintro e w1 ⟨k, rfl, rfl⟩)
  go_ret2
  exact ⟨rfl, below_drewN (Below.refl _ _) k⟩
theorem TreeOf.givesN {W : World} {tb base n₀ : Nat} {F : Pic} {L : List Ent} (h : TreeOf W tb base F L) (hIn : ∀ ns x, F ns = some x → x.b < n₀ ∧ ∀ m, x.m = some m → m < n₀) (hn₀ : n₀ ≤ W.heap.size) {ns : List (List UInt8)} {nd : Nd} (hnd : F ns = some nd) :
    GivesE Tryz.prog 44 #[.pointer (some ⟨W.heap.size, 0, none⟩)] (underL L ns) n₀ (W.alloc (.cells #[.pointer (some ⟨nd.b, 0, none⟩)] 65)) :=
  below_gives base 4096 n₀ F L h.says (by omega) hIn ns nd hnd W.heap.size _ (h.at'.tree.alloc _) (by simp; omega) (Boxed.new W _ _).cell
theorem wrap_small {z : Int} (h1 : 0 ≤ z) (h2 : z ≤ 1073741824) : wrap64 z = z := by unfold wrap64; omega
theorem range_lawF {P : Program} {g : Operand} {p : Tmp} {assign body : Code} {Q : Exit → Act → World → Prop} {a : Act} {w : World} {n : Nat}
    {gf : Nat} {lb : Array Value} (hg : a.eval g = .func (.func gf) #[] lb) (eg : ∀ args w, (callFunc gf args).run P w = .ok (.enter gf args) w)
    {xs : List Ent} {n₀ : Nat} {w0 : World} (hseq : GivesE P gf lb xs n₀ w0) (hn₀ : n₀ ≤ w.heap.size) (hb0 : Below w0.heap.size w0 w)
    (I : List Ent → (Nat → Prop) → World → Prop) (S0 : Nat → Prop) (hI : LocalE I) (hS0 : ∀ k, S0 k → n₀ ≤ k) (h0 : I [] S0 w) (tE : TypeId) (q : Tmp)
    (hassign : ∀ (m l : Nat) (x : Ent) (W : World) (K : Act → World → Prop), K { tmps := (a.tmps.setIfInBounds p (entV x)).setIfInBounds q (.pointer (some ⟨W.heap.size, 0, none⟩)), defers := [] } (W.alloc (.cells #[.string x.path, .int .i64 x.kind, .int .i64 x.mode, .string x.data, .string x.link] tE)) →
      assign.wpIn (Fence.wide.inRound l) m P (Exit.then K (fun _ _ _ => False)) { tmps := a.tmps.setIfInBounds p (entV x), defers := [] } W)
    (hbody : ∀ (m l : Nat) (pre : List Ent) (x : Ent) (S : Nat → Prop) (b : Nat) (W : World), I pre S W → pre ++ [x] <+: xs → W.heap[b]? = some (.cells #[.string x.path, .int .i64 x.kind, .int .i64 x.mode, .string x.data, .string x.link] tE) → ¬ S b → w.heap.size + 2 ≤ b →
      body.wpIn (Fence.wide.inRound l) m P (fun e _ W3 => e = .normal ∧ ∃ S2, I (pre ++ [x]) S2 W3 ∧ Rnd (fun k => S k ∨ k = b) S2 W W3) { tmps := (a.tmps.setIfInBounds p (entV x)).setIfInBounds q (.pointer (some ⟨b, 0, none⟩)), defers := [] } W)
    (hdone : ∀ (D : Nat) (S : Nat → Prop) (W : World), w.heap.size ≤ D → I xs S W → Rnd S0 S w W → ¬ S D → W.heap[D]? = some (.deferred (some [])) → Q .normal { a with defers := { target := .collected D, args := #[] } :: a.defers } W) :
    (Code.rangeFunc g #[p] assign body).wpIn Fence.wide n P Q a w :=
  range_lawE hg eg hseq hn₀ hb0 I S0 hI hS0 h0 tE (fun x b => { tmps := (a.tmps.setIfInBounds p (entV x)).setIfInBounds q (.pointer (some ⟨b, 0, none⟩)), defers := [] }) hassign hbody hdone
/-- What Take counts. -/
def Cnt (b7 b8 : Nat) (d0 : Nat) (pre : List Ent) (S : Nat → Prop) (W : World) : Prop :=
  Boxed W b7 3 (.int .i64 ((1 + pre.length : Nat) : Int)) ∧ Boxed W b8 3 (.int .i64 ((d0 + bytesL pre : Nat) : Int)) ∧ b7 ≠ b8 ∧ S = fun k => k = b7 ∨ k = b8
theorem cnt_local (b7 b8 d0 : Nat) : LocalE (Cnt b7 b8 d0) := by
  refine ⟨?_, ?_⟩
  · rintro pre S A B ⟨h1, h2, h3, rfl⟩ _ hk
    exact ⟨(hk b7 (.inl rfl)).trans h1, (hk b8 (.inr rfl)).trans h2, h3, rfl⟩
  · rintro pre S A ⟨h1, h2, h3, rfl⟩ k hk
    rcases hk with rfl | rfl
    · exact h1.lt
    · exact h2.lt
theorem bytes_append (a b : List Ent) : bytesL (a ++ b) = bytesL a + bytesL b := by simp [bytesL]
theorem bytes_sub {a b : List Ent} (h : a.Sublist b) : bytesL a ≤ bytesL b := by
  induction h with
  | slnil => exact Nat.le_refl _
  | cons x _ ih => simp [bytesL] at ih ⊢; omega
  | cons_cons x _ ih => simp [bytesL] at ih ⊢; omega
/-- What stands at some names, and what lies below: the rest stays. -/
theorem part_len {F : Pic} {L : List Ent} (h : Says F L) {ns : List (List UInt8)} {x : Nd} (hns : ns ≠ []) (hx : F ns = some x) : L.length = (goneL L ns).length + (1 + (underL L ns).length) ∧ bytesL L = bytesL (goneL L ns) + (x.e.data.size + bytesL (underL L ns)) := by
  obtain ⟨h1, h2⟩ := h.of' ns x hns hx
  have he : L.filter (fun e => ns.isPrefixOf (namesP e.path)) = x.e :: underL L ns := by
    refine srt_ext _ _ (h.order.sublist List.filter_sublist) (List.pairwise_cons.2 ⟨fun b hb => ?_, h.order.sublist List.filter_sublist⟩) (fun e => ?_)
    · obtain ⟨hb1, y, t, hb2⟩ := mem_under.1 hb
      exact lt_below (h.full _ h1) (h.full _ hb1) (by rw [h2, hb2])
    · rw [List.mem_filter, List.mem_cons, mem_under]
      constructor
      · rintro ⟨g1, g2⟩
        obtain ⟨t, ht⟩ := List.isPrefixOf_iff_prefix.1 g2
        cases t with
        | nil =>
          left
          obtain ⟨z, hz, hze⟩ := h.at' e g1
          rw [← ht, List.append_nil, hx] at hz
          cases hz; exact hze.symm
        | cons y t => exact .inr ⟨g1, y, t, ht.symm⟩
      · rintro (rfl | ⟨g1, y, t, g2⟩)
        · exact ⟨h1, List.isPrefixOf_iff_prefix.2 (by rw [h2]; exact List.prefix_refl _)⟩
        · exact ⟨g1, List.isPrefixOf_iff_prefix.2 ⟨_, g2.symm⟩⟩
  have hp : ∀ M : List Ent, M.length = (M.filter fun e => !ns.isPrefixOf (namesP e.path)).length + (M.filter fun e => ns.isPrefixOf (namesP e.path)).length ∧ bytesL M = bytesL (M.filter fun e => !ns.isPrefixOf (namesP e.path)) + bytesL (M.filter fun e => ns.isPrefixOf (namesP e.path)) := by
    intro M
    unfold bytesL
    induction M with
    | nil => simp
    | cons y M ih => cases hh : ns.isPrefixOf (namesP y.path) <;> simp [hh] at ih ⊢ <;> omega
  obtain ⟨p1, p2⟩ := hp L
  rw [he] at p1 p2
  simp [bytesL] at p1 p2
  unfold goneL bytesL
  constructor <;> omega
theorem two_boxes (V : World) (t : TypeId) (a b : Value) : Boxed ((V.alloc (.cells #[a] t)).alloc (.cells #[b] t)).drew V.heap.size t a ∧ Boxed ((V.alloc (.cells #[a] t)).alloc (.cells #[b] t)).drew (V.heap.size + 1) t b ∧ Below V.heap.size V ((V.alloc (.cells #[a] t)).alloc (.cells #[b] t)).drew := by
  refine ⟨(Boxed.new V t a).alloc _, ?_, (((Below.refl _ V).alloc (Nat.le_refl _) _).alloc (by simp) _).drew⟩
  have h := Boxed.new (V.alloc (.cells #[a] t)) t b
  rw [World.size_alloc] at h; exact h
theorem TreeAt.belowN {W W' : World} {tb base N n n₀ : Nat} {F : Pic} {q : Int} (h : TreeAt W tb base N F n q) (hIn : ∀ ns x, F ns = some x → x.b < n₀ ∧ ∀ m, x.m = some m → m < n₀) (htb : tb < n₀) (hb : Below n₀ W W') : TreeAt W' tb base N F n q := by
  obtain ⟨rt, m, h1, h2, h3⟩ := h.root
  exact ⟨h.from', ⟨rt, m, h1, h2, (hb.block tb htb).trans h3⟩, h.tree.belowN hIn hb, h.kinds⟩
theorem TreeOf.mine_ge {W : World} {tb base : Nat} {F : Pic} {L : List Ent} (h : TreeOf W tb base F L) : ∀ k, MineT tb F k → base ≤ k := by
  rintro k (rfl | ⟨ns, x, hx, h1⟩)
  · exact h.at'.from'
  · rcases h1 with rfl | h1
    · exact (h.at'.tree.node ns x hx).1
    · exact (h.at'.tree.kids ns x k hx h1).1
theorem cut_some {F : Pic} {ns ms : List (List UInt8)} {x : Nd} (h : cutPic F ns ms = some x) : F ms = some x := by
  unfold cutPic at h
  split at h
  · cases h
  · exact h
set_option maxRecDepth 100000 in
set_option maxHeartbeats 8000000 in
theorem take_0 (tb base : Nat) (F : Pic) (L : List Ent) (p : ByteArray) (h0 : p.size ≠ 0) (w : World) (h : TreeOf w tb base F L) (x : Nd) (hx : F (namesP p) = some x) :
    Calls Tryz.prog 75 #[.pointer (some ⟨tb, 0, none⟩), .string p] w fun e w' => e = .returned (.tuple #[.int .i64 ((L.length : Int) - ((goneL L (namesP p)).length : Int)), .nilIface]) ∧ Below base w w' ∧ ∃ F', TreeOf w' tb base F' (goneL L (namesP p)) ∧ Rnd (MineT tb F) (MineT tb F') w w' := by
  have he : p.toList.isEmpty = false := (isEmpty_false p).2 (by omega)
  have hns := names_ne h0
  obtain ⟨hxL, hxn⟩ := h.says.of' _ x hns hx
  obtain rfl : p = x.e.path := (names_inj (h.says.full _ hxL) h0 hxn).symm
  have hck := wrong_check (h.right _ hxL)
  have hps := (check_facts hck).2.1
  obtain ⟨hlen, hbyt⟩ := part_len h.says hns hx
  obtain ⟨rt, rm, hrt, hrm, hhead⟩ := h.at'.root
  have hA := at_p tb base 4096 F rt x.e.path w (by omega) hrt (head_cells hhead).1 h.at'.tree
  rw [hx] at hA
  simp only [Option.map, toPtr] at hA
  have HT : Hid (TreeOf w tb base F L) := h
  have HX : Hid (F (namesP x.e.path) = some x) := hx
  have HCK : Hid (checkN x.e.path = 0) := hck
  have HLB : Hid (L.length = (goneL L (namesP x.e.path)).length + (1 + (underL L (namesP x.e.path)).length) ∧ bytesL L = bytesL (goneL L (namesP x.e.path)) + (x.e.data.size + bytesL (underL L (namesP x.e.path)))) := ⟨hlen, hbyt⟩
  have hfew := h.few
  have hlight := h.light
  have hc3 : ∀ k, (w.drewN k).cell? ⟨x.b, 3, none⟩ = some (.string x.e.data) := fun k => node_cell (W := w.drewN k) (h.at'.tree.node _ x hx).2 rfl
  clear hrt hrm hhead hx hxL hxn hck h hlen hbyt hns
  refine (callsIn_wide (n := 5)).1 ?_
  refine callsIn_of_wp_marks Tryz.func75 rfl trivial ?_ rfl
  simp only [Tryz.ntmps75, List.size_toArray, List.length_cons, List.length_nil, Nat.reduceAdd, Nat.reduceSub, Array.replicate_succ, Array.replicate_zero, List.push_toArray, List.append_toArray, List.nil_append, List.cons_append]
  refine wpIn_wide.2 ?_
  go_upto_region 6 with (go_at_call 86; refine hA.mono ?_; rintro e w1 ⟨k, rfl, rfl⟩)
  have HV : Hid (TreeOf (w.drewN k) tb base F L) := HT.out.below (below_drewN (Below.refl _ _) k)
  have HB : Hid (Below w.heap.size w (w.drewN k)) := below_drewN (Below.refl _ _) k
  have hd3 := hc3 k
  have hVs : (w.drewN k).heap.size = w.heap.size := rfl
  have hxb : x.b < (w.drewN k).heap.size := HT.out.at'.tree.lt HX.out
  clear hc3 hA
  generalize w.drewN k = V at *
  go_cut [7, 8] from 19 to 24 (fun s7 s8 wx => ∃ b7 b8, s7 = .pointer (some ⟨b7, 0, none⟩) ∧ s8 = .pointer (some ⟨b8, 0, none⟩) ∧ Boxed wx b7 3 (.int .i64 1) ∧ Boxed wx b8 3 (.int .i64 x.e.data.size) ∧ V.heap.size ≤ b7 ∧ V.heap.size ≤ b8 ∧ b7 ≠ b8 ∧ Below V.heap.size V wx)
  case first =>
    have a0 : V.drew.cell? ⟨x.b, 3, none⟩ = some (.string x.e.data) := hd3
    have a1 : ∀ o1, (V.alloc o1).drew.cell? ⟨x.b, 3, none⟩ = some (.string x.e.data) := fun o1 => by
      show (V.alloc o1).cell? _ = _
      rw [World.cell?_alloc_lt _ _ ⟨x.b, 3, none⟩ hxb]; exact hd3
    have a2 : ∀ o1 o2, ((V.alloc o1).alloc o2).drew.cell? ⟨x.b, 3, none⟩ = some (.string x.e.data) := fun o1 o2 => by
      show ((V.alloc o1).alloc o2).cell? _ = _
      rw [World.cell?_alloc_lt _ _ ⟨x.b, 3, none⟩ (by simp; omega), World.cell?_alloc_lt _ _ ⟨x.b, 3, none⟩ hxb]; exact hd3
    go_region
    all_goals go_wp2_with fail
    all_goals go_meet
    · obtain ⟨q1, q2, q3⟩ := two_boxes V 3 (.int .i64 1) (.int .i64 x.e.data.size)
      rw [hVs] at q1 q2
      exact ⟨_, _, rfl, rfl, q1, q2, by omega, by omega, by omega, q3⟩
    · obtain ⟨q1, q2, q3⟩ := two_boxes V 3 (.int .i64 x.e.data.size) (.int .i64 1)
      rw [hVs] at q1 q2
      exact ⟨_, _, rfl, rfl, q2, q1, by omega, by omega, by omega, q3⟩
  case rest =>
    obtain ⟨b7, b8, rfl, rfl, hx7, hx8, h7, h8, h78, hbc⟩ := hcut
    have HC : Hid (TreeOf wc tb base F L) := HV.out.below hbc
    have HBC : Hid (Below w.heap.size w wc) := below_join HB.out hbc
    have HBV : Hid (Below V.heap.size V wc) := hbc
    have HG := HC.out.givesN HV.out.inB (by have := HBC.out.size; omega) HX.out
    have hbA : Below wc.heap.size wc (wc.alloc (.cells #[.pointer (some ⟨x.b, 0, none⟩)] 65)) := (Below.refl _ _).alloc (Nat.le_refl _) _
    have y7 : Boxed (wc.alloc (.cells #[.pointer (some ⟨x.b, 0, none⟩)] 65)) b7 3 (.int .i64 1) := hx7.alloc _
    have y8 : Boxed (wc.alloc (.cells #[.pointer (some ⟨x.b, 0, none⟩)] 65)) b8 3 (.int .i64 x.e.data.size) := hx8.alloc _
    have hwcs : w.heap.size ≤ wc.heap.size := HBC.out.size
    have hwc7 := hx7.lt
    have hwc8 := hx8.lt
    clear hbc hx7 hx8 hd3
    go_wp2_with (go_at_call 27; refine (below_c _ _).mono ?_; rintro e w1 ⟨rfl, rfl⟩)
    have HT1 : Hid (TreeOf (wc.alloc (.cells #[.pointer (some ⟨x.b, 0, none⟩)] 65)) tb base F L) := HC.out.below hbA
    have HB1 : Hid (Below w.heap.size w (wc.alloc (.cells #[.pointer (some ⟨x.b, 0, none⟩)] 65))) := below_join HBC.out hbA
    have HSUB : Hid (∀ pre, pre <+: underL L (namesP x.e.path) → pre.length ≤ 4096 ∧ x.e.data.size + bytesL pre ≤ 16777216) := fun pre hpre => by
      have h1 := hpre.length_le
      have h2 := under_le L (namesP x.e.path)
      have h3 := bytes_sub hpre.sublist
      have h4 := HLB.out.2
      exact ⟨by omega, by omega⟩
    have hWA : (wc.alloc (.cells #[.pointer (some ⟨x.b, 0, none⟩)] 65)).heap.size = wc.heap.size + 1 := by simp
    have HVA : Hid (Below V.heap.size V (wc.alloc (.cells #[.pointer (some ⟨x.b, 0, none⟩)] 65))) := below_join HBV.out hbA
    clear hbA
    generalize wc.alloc (.cells #[.pointer (some ⟨x.b, 0, none⟩)] 65) = WA at *
    refine wpIn_wide.1 (range_lawF (n := 5) (xs := underL L (namesP x.e.path)) (n₀ := V.heap.size) rfl eg_below HG (by omega) (Below.refl _ _) (Cnt b7 b8 x.e.data.size) (fun k => k = b7 ∨ k = b8) (cnt_local _ _ _) (fun k hk => ?s0) ⟨y7, y8, h78, rfl⟩ 52 9 ?assign ?body ?done)
    case s0 =>
      rcases hk with rfl | rfl
      · exact h7
      · exact h8
    case assign =>
      intro m l x2 W K hK
      simp only [List.setIfInBounds_toArray, List.set_cons_succ, List.set_cons_zero] at hK ⊢
      unfold entV at hK ⊢
      gi_wp2
      exact hK
    case body =>
      rintro m l pre x2 S b W ⟨r7, r8, r78, hS⟩ hpx hb hSb hbs
      obtain ⟨hp1, hp2⟩ := HSUB.out _ hpx
      rw [bytes_append] at hp2
      simp [bytesL] at hp1 hp2
      have HS : Hid (S = fun k => k = b7 ∨ k = b8) := hS
      have c3 : W.cell? ⟨b, 3, none⟩ = some (.string x2.data) := by unfold World.cell?; simp only [hb]; rfl
      have hb7 : b ≠ b7 := fun e => hSb (by rw [HS.out]; exact .inl e)
      have hb8 : b ≠ b8 := fun e => hSb (by rw [HS.out]; exact .inr e)
      have d7 := r7.cell
      have d8 := r8.cell
      have f7 := r7.frozen
      have f8 := r8.frozen
      have w8 : wrap64 ((x.e.data.size : Int) + (bytesL pre : Int) + (x2.data.size : Int)) = (x.e.data.size : Int) + (bytesL pre : Int) + (x2.data.size : Int) := wrap_small (by omega) (by simp [bytesL]; omega)
      clear hS hb hpx
      simp only [List.setIfInBounds_toArray, List.set_cons_succ, List.set_cons_zero]
      gi_wp2
      have hlt7 := r7.lt
      have hlt8 := r8.lt
      rw [show (1 + (pre.length : Int) + 1) = ((1 + (pre ++ [x2]).length : Nat) : Int) by simp; omega, show ((x.e.data.size : Int) + (bytesL pre : Int) + (x2.data.size : Int)) = ((x.e.data.size + bytesL (pre ++ [x2]) : Nat) : Int) by rw [bytes_append]; simp [bytesL]; omega]
      refine ⟨S, ⟨Boxed.other (Boxed.set _ r7) r78 _, Boxed.set _ (Boxed.other r8 (Ne.symm r78) _), r78, HS.out⟩, ?_⟩
      · refine ⟨rfl, rfl, rfl, by simp [World.setCell], fun k hk hn => ?_, fun k hk => .inl (.inl hk)⟩
        have k7 : k ≠ b7 := fun e => hn (.inl (by rw [HS.out]; exact .inl e))
        have k8 : k ≠ b8 := fun e => hn (.inl (by rw [HS.out]; exact .inr e))
        exact (Below.heap_setCell _ _ _ _ k8).trans (Below.heap_setCell _ _ _ _ k7)
    case done =>
      rintro D S W hD ⟨r7, r8, r78, hS⟩ hr hSD hK
      have HS : Hid (S = fun k => k = b7 ∨ k = b8) := hS
      have HBW : Hid (Below V.heap.size V W) := HVA.out.trans (hr.below (by omega) (fun k hk => by
        rcases hk with rfl | rfl
        · exact h7
        · exact h8))
      have HTW : Hid (TreeOf W tb base F L) := HV.out.below HBW.out
      have hWs : V.heap.size ≤ W.heap.size := HBW.out.size
      clear hS hr y7 y8
      obtain ⟨u, hu⟩ : ∃ u, F (namesP (parentB x.e.path)) = some u := by
        cases hq : F (namesP (parentB x.e.path)) with
        | some u => exact ⟨u, rfl⟩
        | none =>
          have := HTW.out.says.gone _ (un (lastB x.e.path)) hq
          rw [names_split HCK.out, HX.out] at this; cases this
      obtain ⟨m, hm⟩ : ∃ m, u.m = some m := by
        cases hq : u.m with
        | some m => exact ⟨m, rfl⟩
        | none =>
          have := HTW.out.at'.tree.leaf _ u (un (lastB x.e.path)) hu hq
          rw [names_split HCK.out, HX.out] at this; cases this
      have hls := lastB_size x.e.path
      have hpr := parentB_size x.e.path
      obtain ⟨rt, rm, hrt, hrm, hhead⟩ := HTW.out.at'.root
      have hAT := at_p tb base 4096 F rt (parentB x.e.path) W.drew (by omega) hrt (head_cells hhead).1 (HTW.out.at'.tree.drewN 1)
      rw [hu] at hAT
      simp only [Option.map, toPtr] at hAT
      have hum : W.cell? ⟨u.b, 5, none⟩ = some (.map (some m)) := by rw [← hm]; exact node_cell (HTW.out.at'.tree.node _ u hu).2 rfl
      have DEL : ∀ k, ∃ W6, (Builtin.delete_ #[128, 9] 0 #[.map (some m), .string (lastB x.e.path)]).run Tryz.prog (W.drewN (1 + k)) = .ok (.tuple #[]) W6 ∧ KidsAt W6 Tryz.prog 9 m 4096 (setKid (kidsOf F (namesP (parentB x.e.path))) (un (lastB x.e.path)) none) ∧ (W.drewN (1 + k)).mapTurned W6 m := fun k =>
        ((HTW.out.at'.tree.drewN (1 + k)).kids _ u m hu hm).2.drop Tryz.underlying9 Tryz.underlying128 (Nat.le_trans (by omega : _ ≤ 1073741824) (by decide)) 0
      have HU : Hid (F (namesP (parentB x.e.path)) = some u ∧ u.m = some m) := ⟨hu, hm⟩
      have hmu : some u.b ≠ some m := by simpa using HTW.out.at'.tree.other hu hu hm
      clear hrt hrm hhead hu hm
      go_upto_region 11 with fail
      go_region_held3 (fun W' => W'.cell? ⟨u.b, 5, none⟩ = some (.map (some m))) (first | exact hum | exact t6.grown.cell hum hmu | go_keep)
        (first
          | (go_at_call 70; refine (parent_p _ _ (by omega)).mono ?_; rintro e w' ⟨rfl, rfl⟩)
          | (go_at_call 86; refine hAT.mono ?_; rintro e w' ⟨k, rfl, rfl⟩; obtain ⟨W6, r6, k6, t6⟩ := DEL k)
          | (go_at_call 87; refine (last_p _ _ (by omega)).mono ?_; rintro e w' ⟨rfl, rfl⟩))
      have HT6 : Hid (TreeW W6 Tryz.prog 9 130 base 4096 (cutPic F (namesP x.e.path))) := by
        have := (HTW.out.at'.tree.drewN (1 + k)).taken HU.out.1 HU.out.2 k6 t6
        rw [names_split HCK.out] at this; exact this
      have hg6 := t6.grown
      have hmw : m < W.heap.size := HTW.out.at'.tree.mlt HU.out.1 HU.out.2
      have HH6 : Hid (∃ rt rm, F [] = some rt ∧ rt.m = some rm ∧ W6.heap[tb]? = some (.cells #[.pointer (some ⟨rt.b, 0, none⟩), .int .i64 (L.length : Nat), .int .i64 (bytesL L : Nat)] 67)) := by
        obtain ⟨rt, rm, q1, q2, q3⟩ := HTW.out.at'.root
        exact ⟨rt, rm, q1, q2, (hg6.block tb (HTW.out.at'.lt) (by simpa using Ne.symm (HTW.out.at'.head_map HU.out.1 HU.out.2))).trans q3⟩
      have hm7 : b7 ≠ m := fun e => by
        have := HV.out.at'.tree.mlt HU.out.1 HU.out.2
        omega
      have hm8 : b8 ≠ m := fun e => by
        have := HV.out.at'.tree.mlt HU.out.1 HU.out.2
        omega
      have r7' : Boxed W6 b7 3 (.int .i64 ((1 + (underL L (namesP x.e.path)).length : Nat) : Int)) := (hg6.block b7 r7.lt (by simpa using hm7)).trans r7
      have r8' : Boxed W6 b8 3 (.int .i64 ((x.e.data.size + bytesL (underL L (namesP x.e.path)) : Nat) : Int)) := (hg6.block b8 r8.lt (by simpa using hm8)).trans r8
      have HK6 : Hid (W6.heap[D]? = some (.deferred (some []))) := (hg6.block D (Array.getElem?_eq_some_iff.1 hK).1 (by have := HV.out.at'.tree.mlt HU.out.1 HU.out.2; simp; omega)).trans hK
      have HB6 : Hid (∀ k, k < W.heap.size → k ≠ m → W6.heap[k]? = W.heap[k]?) := fun k hk hne => hg6.block k hk (by simpa using hne)
      have HO6 : Hid (W6.os = W.os ∧ W6.tape = W.tape ∧ W6.output = W.output ∧ W.heap.size ≤ W6.heap.size) := ⟨hg6.os, hg6.tape, hg6.output, hg6.size⟩
      clear k6 t6 hg6 DEL hAT r7 r8 hum r6
      obtain ⟨rt6, rm6, hq1, hq2, hq3⟩ := HH6.out
      obtain ⟨c0, c1, c2⟩ := head_cells hq3
      have f1 : W6.frozen? ⟨tb, 1, none⟩ = false := by simp [World.frozen?, hq3]
      have f2 : W6.frozen? ⟨tb, 2, none⟩ = false := by simp [World.frozen?, hq3]
      have d7 := r7'.cell
      have d8 := r8'.cell
      clear hq1 hq2 hq3
      have hL1 : (L.length : Int) = ((goneL L (namesP x.e.path)).length : Int) + (1 + ((underL L (namesP x.e.path)).length : Int)) := by have := HLB.out.1; omega
      have hL2 : (bytesL L : Int) = (bytesL (goneL L (namesP x.e.path)) : Int) + ((x.e.data.size : Int) + (bytesL (underL L (namesP x.e.path)) : Int)) := by have := HLB.out.2; omega
      have HL12 : Hid ((L.length : Int) - (1 + ((underL L (namesP x.e.path)).length : Int)) = ((goneL L (namesP x.e.path)).length : Int) ∧ (bytesL L : Int) - ((x.e.data.size : Int) + (bytesL (underL L (namesP x.e.path)) : Int)) = (bytesL (goneL L (namesP x.e.path)) : Int)) := ⟨by omega, by omega⟩
      have w1 : wrap64 ((L.length : Int) - (1 + ((underL L (namesP x.e.path)).length : Int))) = (L.length : Int) - (1 + ((underL L (namesP x.e.path)).length : Int)) := wrap_small (by omega) (by omega)
      have w2 : wrap64 ((bytesL L : Int) - ((x.e.data.size : Int) + (bytesL (underL L (namesP x.e.path)) : Int))) = (bytesL L : Int) - ((x.e.data.size : Int) + (bytesL (underL L (namesP x.e.path)) : Int)) := wrap_small (by omega) (by omega)
      clear hL1 hL2
      have n7 : b7 ≠ tb := fun e => by have := HV.out.at'.lt; omega
      have n8 : b8 ≠ tb := fun e => by have := HV.out.at'.lt; omega
      go_upto_region 12 with fail
      go_region
      go_upto_region 13 with fail
      go_region
      go_wp2
      rw [HL12.out.1, HL12.out.2]
      have hDV : V.heap.size ≤ D := by omega
      have htbV : tb < V.heap.size := HV.out.at'.lt
      have hns : namesP x.e.path ≠ [] := names_ne h0
      have hTA : TreeAt W6 tb base 4096 (cutPic F (namesP x.e.path)) L.length (bytesL L) := by
        obtain ⟨rt, rm, q1, q2, q3⟩ := HH6.out
        refine ⟨HTW.out.at'.from', ⟨rt, rm, ?_, q2, q3⟩, HT6.out, fun ms y hy => HTW.out.at'.kinds ms y (cut_some hy)⟩
        unfold cutPic
        rw [if_neg (fun hp => hns (List.prefix_nil.1 hp))]; exact q1
      obtain ⟨hTB, hgB⟩ := hTA.counts (goneL L (namesP x.e.path)).length (bytesL (goneL L (namesP x.e.path)))
      have hKD : (((W6.setCell ⟨tb, 1, none⟩ (.int .i64 ((goneL L (namesP x.e.path)).length : Nat))).setCell ⟨tb, 2, none⟩ (.int .i64 (bytesL (goneL L (namesP x.e.path)) : Nat))).drew.drew).heap[D]? = some (.deferred (some [])) := (hgB.block D (Array.getElem?_eq_some_iff.1 HK6.out).1 (by simp; omega)).trans HK6.out
      have hTC := hTB.below (below_drewN (below_drewN (Below.refl _ _) 1) 1)
      have hgs := hgB.size
      refine ⟨by simp, .inl ⟨_, _, rfl, run_takeDeferred hKD, ?_⟩⟩
      refine ⟨.tuple #[.int .i64 (1 + ((underL L (namesP x.e.path)).length : Int)), .nilIface], by simp [results, Tryz.f75, go_sem], by rw [show ((L.length : Int) - ((goneL L (namesP x.e.path)).length : Int)) = 1 + ((underL L (namesP x.e.path)).length : Int) by have := HLB.out.1; omega], ?_⟩
      have hInV : ∀ ns y, cutPic F (namesP x.e.path) ns = some y → y.b < V.heap.size ∧ ∀ m, y.m = some m → m < V.heap.size := fun ns y hy => HV.out.inB ns y (cut_some hy)
      have hbD := putLoop_below (n₀ := V.heap.size) (.deferred none) hKD hDV
      have hRnd : Rnd (MineT tb F) (MineT tb (cutPic F (namesP x.e.path))) w ((((W6.setCell ⟨tb, 1, none⟩ (.int .i64 ((goneL L (namesP x.e.path)).length : Nat))).setCell ⟨tb, 2, none⟩ (.int .i64 (bytesL (goneL L (namesP x.e.path)) : Nat))).drew.drew).putObj D (.deferred none)) := by
        refine ⟨?_, ?_, ?_, ?_, fun k hk hn => ?_, fun k hk => .inl ?_⟩
        · exact HO6.out.1.trans (HBW.out.os.trans HB.out.os)
        · exact HO6.out.2.1.trans (HBW.out.tape.trans HB.out.tape)
        · exact HO6.out.2.2.1.trans (HBW.out.output.trans HB.out.output)
        · rw [put_size]
          have h1 := HO6.out.2.2.2
          exact Nat.le_trans (by omega : w.heap.size ≤ W6.heap.size) hgs
        · have k1 : k ≠ tb := fun e => hn (.inl e)
          have k2 : k ≠ m := fun e => hn (.inr ⟨_, u, HU.out.1, .inr (by rw [HU.out.2, e])⟩)
          have h1 := HO6.out.2.2.2
          exact (World.putObj_heap_other (by omega)).trans ((hgB.block k (by omega) (by simpa using k1)).trans ((HB6.out k (by omega) k2).trans ((HBW.out.block k (by omega)).trans (HB.out.block k hk))))
        · rcases hk with rfl | ⟨ns, y, hy, h1⟩
          · exact .inl rfl
          · exact .inr ⟨ns, y, cut_some hy, h1⟩
      refine ⟨hRnd.below (by have := HT.out.at'.lt; have := HT.out.at'.from'; omega) HT.out.mine_ge, cutPic F (namesP x.e.path), ⟨hTC.belowN hInV htbV hbD, HTW.out.says.taken hns, fun e he => HTW.out.right e (List.mem_filter.1 he).1, ?_, ?_⟩, hRnd⟩
      · have := HLB.out.1; omega
      · have := HLB.out.2; omega
end Go.Proofs.YtcefgnjgcnboeaaGreatDoor
