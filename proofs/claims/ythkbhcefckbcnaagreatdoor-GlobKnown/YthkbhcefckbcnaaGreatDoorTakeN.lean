/- Package glob's takeNames and Match: whether a pattern matches a text. -/
import Derived.Test.YthkbhcefckbcnaaGreatDoorTakeB
import Derived.Test.YthkbhcefckbcnaaGreatDoorNamesOf
namespace Go.Proofs.YthkbhcefckbcnaaGreatDoor
open Go Go.RowKit Go.Shelf

theorem row_cell {W : World} {base e size n : Nat} {g cap : Nat} {xs : List Value} (h : W.ownsRow base e size (.slice (some ⟨g, 0, none⟩) n cap) n xs) (j : Nat) (u : Value) (hu : xs[j]? = some u) : W.cell? ⟨g, j, none⟩ = some u := by
  rcases h.2 with ⟨h0, _⟩ | ⟨g2, cap2, cur, h0, _, hgb, _, _, _, htk⟩
  · cases h0
  · cases h0
    have : cur[j]? = some u := by
      rw [← htk] at hu
      rw [List.getElem?_take] at hu
      split at hu
      · simpa using hu
      · cases hu
    simp [World.cell?, hgb, this]
theorem PcsIn.turn {A B : World} {base : Nat} {v : Value} {ps : List Pc} (h : PcsIn A base v ps) (hb : Below A.heap.size A B) : PcsIn B base v ps := by
  obtain ⟨cs, hr, ho⟩ := h
  exact ⟨cs, hr.turn (grown_of_below hb) (NoParts.none _), own_below ho hb⟩
theorem PcsIn.cells {W : World} {base : Nat} {v : Value} {ps : List Pc} (h : PcsIn W base v ps) {i : Nat} {p : Pc} (hi : ps[i]? = some p) :
    ∃ g cap u, v = .slice (some ⟨g, 0, none⟩) ps.length cap ∧ W.cell? ⟨g, i * 2, none⟩ = some (.bool p.isNone) ∧ W.cell? ⟨g, i * 2 + 1, none⟩ = some u ∧ PcIn W u p := by
  obtain ⟨cs, hr, ho⟩ := h
  obtain ⟨u, hu, h1, h2⟩ := hr.at hi
  rcases ho.2 with ⟨rfl, h0⟩ | ⟨g, cap, cur, rfl, _⟩
  · have : i < ps.length := (List.getElem?_eq_some_iff.1 hi).1
    omega
  · exact ⟨g, cap, u, rfl, row_cell ho _ _ (by rw [Nat.mul_comm]; exact h1), row_cell ho _ _ (by rw [Nat.mul_comm]; exact h2), hu⟩

set_option maxHeartbeats 1000000 in
theorem takeNames1_p (g cap i n B : Nat) (b : Bool) (w : World) (hB : w.cell? ⟨B, 0, none⟩ = some (.slice (some ⟨g, 0, none⟩) n cap)) (hi : i < n) (hc : w.cell? ⟨g, i * 2, none⟩ = some (.bool b)) :
    Calls Tryz.prog 72 #[.int .i64 i, .pointer (some ⟨B, 0, none⟩)] w fun e w' => e = .returned (.bool b) ∧ w' = w := by
  have d1 : (0 : Int) ≤ (i : Int) := by omega
  have d2 : (i : Int) < (n : Int) := by omega
  go_enter Tryz.func72, Tryz.ntmps72
  go_wp2
  go_ret
  exact ⟨rfl, rfl⟩

set_option maxHeartbeats 8000000 in
theorem takeNames2_p (g cap i k n B C h c2 m : Nat) (ps : List (Taker UInt8)) (u : Value) (name : ByteArray) (w : World) (hB : w.cell? ⟨B, 0, none⟩ = some (.slice (some ⟨g, 0, none⟩) n cap)) (hC : w.cell? ⟨C, 0, none⟩ = some (.slice (some ⟨h, 0, none⟩) m c2)) (hi : i < n) (hk : k < m)
    (hu : w.cell? ⟨g, i * 2 + 1, none⟩ = some u) (hn : w.cell? ⟨h, k, none⟩ = some (.string name)) (hp : PartsIn w u ps) (hl : ps.length ≤ 1099511627776) (hz : name.size ≤ 1099511627776) :
    Calls Tryz.prog 73 #[.int .i64 i, .int .i64 k, .pointer (some ⟨B, 0, none⟩), .pointer (some ⟨C, 0, none⟩)] w fun e w' => e = .returned (.bool (takeI ps (un name))) ∧ Below w.heap.size w w' := by
  have d1 : (0 : Int) ≤ (i : Int) := by omega
  have d2 : (i : Int) < (n : Int) := by omega
  have d3 : (0 : Int) ≤ (k : Int) := by omega
  have d4 : (k : Int) < (m : Int) := by omega
  have hcall0 := takeBytes_p ps u name w.drew hp hl hz
  clear hp
  go_enter Tryz.func73, Tryz.ntmps73
  go_wp2
  go_region_with (first | (go_at_call 74; refine hcall0.mono ?_; rintro e w' ⟨rfl, hb⟩))
  all_goals go_wp2
  all_goals go_ret
  all_goals exact ⟨rfl, (below_drew (Below.refl w.heap.size w)).trans (hb.mono (show w.heap.size ≤ w.drew.heap.size from Nat.le_refl _))⟩

theorem pcs_many {ps : List Pc} {i : Nat} {p : Pc} (h : ps[i]? = some p) : isMany (ps.map pcTaker) i = p.isNone := by
  unfold isMany; rw [List.getElem?_map, h]; cases p <;> rfl

/-- Each piece has few parts. -/
def Short (ps : List Pc) : Prop := ∀ qs, some qs ∈ ps → qs.length ≤ 1099511627776

set_option maxHeartbeats 4000000 in
theorem takeNames_p (ps : List Pc) (base base2 : Nat) (v u : Value) (names : List ByteArray) (w : World) (hp : PcsIn w base v ps) (hs : Short ps) (hn : w.ownsRow base2 9 1 u names.length (strs names)) (hl : ps.length ≤ 1099511627776) (hl2 : names.length ≤ 1099511627776) (hz : ∀ x ∈ names, x.size ≤ 1099511627776) :
    Calls Tryz.prog 42 #[v, u] w fun e w' => e = .returned (.bool (takeP ps names)) ∧ Below w.heap.size w w' := by
  obtain ⟨W0, hW0⟩ : ∃ W0, ((w.alloc (.cells #[v] 76)).alloc (.cells #[u] 46)) = W0 := ⟨_, rfl⟩
  have hB0 : Below w.heap.size w W0 := by rw [← hW0]; exact ((Below.refl _ w).alloc (Nat.le_refl _) _).alloc (by simp) _
  have c0 : Boxed W0 w.heap.size 76 v := by rw [← hW0]; exact (Boxed.new w _ _).alloc _
  have c1 : Boxed W0 (w.heap.size + 1) 46 u := by
    have h := Boxed.new (w.alloc (.cells #[v] 76)) 46 u; rw [World.size_alloc] at h; rw [← hW0]; exact h
  have hp0 : PcsIn W0 base v ps := hp.turn hB0
  have hn0 := own_below hn hB0
  have ht : Tells W0 (ps.map pcTaker).length names.length (isMany (ps.map pcTaker)) (isTaken (ps.map pcTaker) names) 72 73 #[.pointer (some ⟨w.heap.size, 0, none⟩)] #[.pointer (some ⟨w.heap.size, 0, none⟩), .pointer (some ⟨w.heap.size + 1, 0, none⟩)] := by
    refine ⟨enters_of Tryz.func72 (by kernel_rfl) rfl, enters_of Tryz.func73 (by kernel_rfl) rfl, ?_, ?_⟩
    · intro i W hi hb
      rw [List.length_map] at hi
      obtain ⟨p, hpi⟩ : ∃ p, ps[i]? = some p := ⟨_, List.getElem?_eq_getElem hi⟩
      obtain ⟨g, cap, x, rfl, hc, _, _⟩ := (hp0.turn hb).cells hpi
      rw [pcs_many hpi]
      refine (takeNames1_p g cap i ps.length w.heap.size p.isNone W (boxed_below c0 hb).cell hi hc).mono ?_
      rintro e W2 ⟨rfl, rfl⟩
      exact ⟨rfl, Below.refl _ _⟩
    · intro i k W hi hk hmi hb
      rw [List.length_map] at hi
      obtain ⟨p, hpi⟩ : ∃ p, ps[i]? = some p := ⟨_, List.getElem?_eq_getElem hi⟩
      obtain ⟨name, hnk⟩ : ∃ x, names[k]? = some x := ⟨_, List.getElem?_eq_getElem hk⟩
      obtain ⟨g, cap, x, rfl, _, hc, hin⟩ := (hp0.turn hb).cells hpi
      rw [pcs_many hpi] at hmi
      cases p with
      | none => cases hmi
      | some qs =>
        have hv : isTaken (ps.map pcTaker) names i k = takeI qs (un name) := by
          unfold isTaken
          rw [List.getElem?_map, hpi, hnk]; rfl
        rw [hv]
        have hnW := own_below hn0 hb
        rcases hnW.2 with ⟨rfl, h0⟩ | ⟨h, c2, cur, rfl, _⟩
        · omega
        · have hcn := row_cell hnW k (.string name) (by simp [strs, hnk])
          exact takeNames2_p g cap i k ps.length w.heap.size (w.heap.size + 1) h c2 names.length qs x name W (boxed_below c0 hb).cell (boxed_below c1 hb).cell hi hk hc hcn hin (hs qs (List.mem_of_getElem? hpi)) (hz name (List.mem_of_getElem? hnk))
  have hlen : ∃ o c, v = .slice o ps.length c := by
    obtain ⟨cs, _, ho⟩ := hp
    rcases ho.2 with ⟨rfl, h0⟩ | ⟨g, cap, cur, rfl, _⟩
    · exact ⟨none, 0, by rw [h0]⟩
    · exact ⟨_, _, rfl⟩
  have hlen2 : ∃ o c, u = .slice o names.length c := by
    rcases hn.2 with ⟨rfl, h0⟩ | ⟨g, cap, cur, rfl, _⟩
    · exact ⟨none, 0, by rw [h0]⟩
    · exact ⟨_, _, rfl⟩
  obtain ⟨o, c, rfl⟩ := hlen
  obtain ⟨o2, c2, rfl⟩ := hlen2
  have hcall := take_p W0 (ps.map pcTaker).length names.length (isMany (ps.map pcTaker)) (isTaken (ps.map pcTaker) names) _ _ _ _ (by rw [List.length_map]; exact hl) hl2 ht
  have d0 := c0.cell
  have d1 := c1.cell
  have Ht : Hid (takenB (isMany (ps.map pcTaker)) (isTaken (ps.map pcTaker) names) (ps.map pcTaker).length names.length = takeP ps names) := rfl
  rw [List.length_map] at hcall
  clear hp hp0 ht c0 c1 hn hn0
  go_enter Tryz.func42, Tryz.ntmps42
  go_wp2_with fail
  refine hcall.mono ?_
  rintro e w2 ⟨rfl, b2⟩
  go_wp2_with fail
  go_ret
  exact ⟨by rw [← Ht.out, List.length_map]; rfl, hB0.trans (b2.mono hB0.size)⟩

theorem partsGo_length : ∀ {f : Nat} {l : List UInt8} {ps : List (Taker UInt8)}, partsGo f l = some ps → ps.length ≤ l.length
  | _, [], ps, h => by rw [partsGo_nil] at h; cases h; simp
  | 0, _ :: _, ps, h => by simp [partsGo] at h
  | f + 1, c :: l, ps, h => by
    simp only [partsGo] at h
    cases hr : rPart (c :: l) with
    | none => simp [hr] at h
    | some y =>
      obtain ⟨p, r⟩ := y
      have h1 := rPart_lt hr
      simp only [hr, Option.map_eq_some_iff] at h
      obtain ⟨qs, hq, rfl⟩ := h
      have h2 := partsGo_length hq
      simp only [List.length_cons] at h1 ⊢; omega
theorem allOf_short : ∀ {xs : List ByteArray} {ps : List Pc} {n : Nat}, allOf xs = some ps → (∀ x ∈ xs, x.size ≤ n) → ∀ qs, some qs ∈ ps → qs.length ≤ n
  | [], ps, n, h, _, qs, hq => by simp [allOf] at h; subst h; simp at hq
  | x :: xs, ps, n, h, hx, qs, hq => by
    simp only [allOf] at h
    cases hp : pieceOf x with
    | none => simp [hp] at h
    | some p =>
      simp only [hp, Option.map_eq_some_iff] at h
      obtain ⟨r, hr, rfl⟩ := h
      rcases List.mem_cons.1 hq with e | hm
      · unfold pieceOf at hp
        split at hp
        · simp at hp; subst hp; cases e
        · simp only [Option.map_eq_some_iff] at hp
          obtain ⟨a, ha, rfl⟩ := hp
          cases e
          have := partsGo_length ha
          rw [un_length] at this
          have := hx x (List.mem_cons_self ..)
          omega
      · exact allOf_short hr (fun y hy => hx y (List.mem_cons_of_mem _ hy)) qs hm
theorem names_size (s x : ByteArray) (h : x ∈ namesB s) : x.size ≤ s.size := by
  have h1 := wt_names s
  obtain ⟨a, b, hab⟩ := List.append_of_mem h
  rw [hab, wt_append] at h1
  simp [wt] at h1; omega
theorem pat_facts {s : ByteArray} {ps : List Pc} (h : patOf s = some ps) : ps.length ≤ 1021 ∧ (∀ qs, some qs ∈ ps → qs.length ≤ 1020) := by
  unfold patOf at h
  split at h
  · rename_i hc
    refine ⟨?_, allOf_short h (fun x hx => Nat.le_trans (names_size s x hx) hc.1)⟩
    have h1 := allOf_length h
    have h2 := length_wt (namesB s)
    have h3 := wt_names s
    omega
  · cases h
def perr (pat : ByteArray) : Value := if (patOf pat).isNone then errP else .nilIface

set_option maxHeartbeats 2000000 in
theorem match_p (pat p : ByteArray) (w : World) (hz : pat.size ≤ 1099511627776) (hp : p.size ≤ 1099511627775) : Calls Tryz.prog 29 #[.string pat, .string p] w fun e w' => e = .returned (.tuple #[.bool (matchB pat p), perr pat]) ∧ Below w.heap.size w w' := by
  have hcall := readPattern_p pat w hz
  unfold ReadPost errP at hcall
  go_enter Tryz.func29, Tryz.ntmps29
  go_wp2_with fail
  refine hcall.mono ?_
  rintro e w1 ⟨⟨ps, v, hpat, hin, rfl⟩ | ⟨hpat, rfl⟩, b1⟩
  · obtain ⟨hl, hsh⟩ := pat_facts hpat
    have HM : Hid (takeP ps (namesB p) = matchB pat p ∧ perr pat = .nilIface) := by unfold Hid matchB perr; rw [hpat]; exact ⟨rfl, rfl⟩
    have hcall2 := fun W => namesOf_p p W (by omega)
    have h1 := length_wt (namesB p)
    have h2 := wt_names p
    have HI : Hid (PcsIn w1 w.heap.size v ps) := hin
    clear hpat hcall hin
    go_wp2_with fail
    refine (hcall2 _).mono ?_
    rintro e w2 ⟨u, rfl, ho, b2⟩
    have hcall3 := takeNames_p ps w.heap.size w1.heap.size v u (namesB p) w2 (HI.out.turn b2) (fun qs hq => by have := hsh qs hq; omega) ho (by omega) (by omega) (fun x hx => by have := names_size p x hx; omega)
    clear hcall2 ho
    go_wp2_with fail
    refine hcall3.mono ?_
    rintro e w3 ⟨rfl, b3⟩
    go_wp2_with fail
    go_ret2
    exact ⟨by rw [← HM.out.1, HM.out.2]; rfl, (b1.trans (b2.mono b1.size)).trans (b3.mono (b1.trans (b2.mono b1.size)).size)⟩
  · have HM : Hid (matchB pat p = false ∧ perr pat = errP) := by unfold Hid matchB perr; rw [hpat]; exact ⟨rfl, rfl⟩
    clear hpat hcall
    go_wp2_with fail
    go_ret2
    exact ⟨by rw [HM.out.1, HM.out.2]; rfl, b1⟩
end Go.Proofs.YthkbhcefckbcnaaGreatDoor
