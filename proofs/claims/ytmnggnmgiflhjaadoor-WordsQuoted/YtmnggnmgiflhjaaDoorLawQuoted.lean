/- WordsQuoted: its walk. -/
import Derived.Test.YtmnggnmgiflhjaaDoorQdM
import Derived.Test.YtmnggnmgiflhjaaDoorWorksW
import Derived.Test.YtmnggnmgiflhjaaDoorLists
namespace Go.Proofs.YtmnggnmgiflhjaaDoor
open Go Go.RowKit

theorem quoL_length (e : UInt8) (l : List UInt8) : (quoL e l).length ≤ 2 * l.length + 2 := by
  unfold quoL
  have := bodyL_length e l
  split
  · omega
  · simp; omega
theorem cell_one' (w : World) (x : Value) (t : TypeId) : ∀ (j : Nat) u, [x][j]? = some u → (w.alloc (.cells #[x] t)).cell? ((⟨w.heap.size, 0, none⟩ : Addr).add j) = some u := by
  intro j u hj
  rcases j with _ | j
  · simp at hj; subst hj; simp [Addr.add]
  · simp at hj
/-- The first k texts quoted. -/
def qs (e : UInt8) (l : List ByteArray) (k : Nat) : List ByteArray := (l.take k).map fun x => bs (quoL e (un x))
def jq (e : UInt8) (l : List ByteArray) (k : Nat) : ByteArray := bs (joinQ e ((l.take k).map un))
theorem qs_succ (e : UInt8) (l : List ByteArray) (k : Nat) (x : ByteArray) (h : l[k]? = some x) : qs e l (k + 1) = qs e l k ++ [bs (quoL e (un x))] := by
  unfold qs; rw [List.take_add_one, h]; simp
theorem jq_succ (e : UInt8) (l : List ByteArray) (k : Nat) (x : ByteArray) (h : l[k]? = some x) : jq e l (k + 1) = (jq e l k ++ bs (quoL e (un x))) ++ ⟨#[32]⟩ := by
  unfold jq
  apply un_inj
  rw [un_append, un_append, un_bs, un_bs, un_bs, List.take_add_one, h, List.map_append, joinQ_append]
  simp [joinQ]; rfl
theorem qs_length (e : UInt8) (l : List ByteArray) (k : Nat) (h : k ≤ l.length) : (qs e l k).length = k := by simp [qs]; omega
theorem own_sh1 {w : World} {B e n : Nat} {v : Value} {xs : List Value} (h : w.ownsRow B e 1 v n xs) : ∃ a c, v = .slice a n c ∧ (0 < n → ∃ g, a = some ⟨g, 0, none⟩) := by
  rcases h.2 with ⟨rfl, rfl⟩ | ⟨g, cap, cur, rfl, _⟩
  · exact ⟨_, _, rfl, fun h => absurd h (Nat.lt_irrefl _)⟩
  · exact ⟨_, _, rfl, fun _ => ⟨g, rfl⟩⟩
theorem qd_get (e : UInt8) (l : List ByteArray) (k i : Nat) (hi : i < k) (hk : k ≤ l.length) : ∃ (p : Int) (R : ByteArray), (wdsOf (jq e l k) (plcQ e ((l.take k).map un) 0))[i]? = some ⟨p, R⟩ ∧ (qs e l k)[i]? = some R := by
  have hx : ((l.take k).map un)[i]? = some (un l[i]) := by rw [List.getElem?_map, List.getElem?_take, if_pos hi, List.getElem?_eq_getElem (by omega)]; rfl
  obtain ⟨a, b, h1, h2⟩ := plcQ_get e ((l.take k).map un) [] i _ hx
  refine ⟨(a : Int), bs (quoL e (un l[i])), ?_, ?_⟩
  · unfold wdsOf
    rw [List.getElem?_map, show (plcQ e ((l.take k).map un) 0)[i]? = some (a, b) from h1]
    show some (Wd.mk _ _) = _
    congr 2
    apply un_inj
    rw [un_extract, un_bs]
    show ((un (bs (joinQ e ((l.take k).map un)))).take b).drop a = _
    rw [un_bs, ← h2]; rfl
  · unfold qs
    rw [List.getElem?_map, List.getElem?_take, if_pos hi, List.getElem?_eq_getElem (by omega)]; rfl
set_option maxRecDepth 100000 in
set_option maxHeartbeats 8000000 in
theorem wordsquoted_law (v : Value) (l : List ByteArray) (c : UInt8) (w : World) (he : ErrType w) (hv : TextsAt w v l) (_ : l.length ≤ 8796093021952) (hx : ∀ x ∈ l, x.size ≤ 140737488351232) : Calls Tryd.prog 7 #[v, .int .u8 c.toNat] w fun e w' => e = .returned (.bool true) ∧ Below w.heap.size w w' := by
  obtain ⟨i0, hi, z0, z1, z2⟩ := info_parts str_info
  obtain ⟨a, cp, rfl, hac, hcell⟩ := hv
  have HC : Hid (∀ (i : Nat) (x : ByteArray), l[i]? = some x → ∃ b o, a = some ⟨b, o, none⟩ ∧ w.cell? ⟨b, o + i, none⟩ = some (.string x)) := hcell
  have HX : Hid (∀ x ∈ l, x.size ≤ 140737488351232) := hx
  have heo := escN_or c
  clear hcell hx
  go_enter Tryd.func7, Tryd.ntmps7
  go_wp2
  go_loopw [5, 6, 7, 8] (fun sv wv iv _ wr => ∃ k : Nat, k ≤ l.length ∧ k ≤ 200 ∧ iv = .int .i64 k ∧ sv = .string (jq (escN c) l k) ∧ (jq (escN c) l k).size ≤ 67108864 ∧ wr.ownsRow w.heap.size 9 1 wv k (strs (qs (escN c) l k)) ∧ Below w.heap.size w wr) (fun _ _ iv _ _ => l.length - (intOf iv).toNat)
  case atStart => exact ⟨0, Nat.zero_le _, Nat.zero_le _, rfl, rfl, Nat.zero_le _, World.ownsRow_nil _ _ _ _, Below.refl _ _⟩
  case round =>
    obtain ⟨k, hk, hk2, rfl, rfl, hjs, hown, hB⟩ := hrel
    have hsz := hB.size
    have k0 : (0 : Int) ≤ (k : Int) := by omega
    by_cases hgo : k < l.length ∧ k < 200 ∧ (jq (escN c) l k).size + (l[k]?.map (·.size)).getD 0 < 16777216
    · obtain ⟨g1, g2, g3⟩ := hgo
      obtain ⟨x, hxk⟩ : ∃ x, l[k]? = some x := ⟨_, List.getElem?_eq_getElem g1⟩
      obtain ⟨b, o, rfl, hc1⟩ := HC.out k x hxk
      rw [hxk] at g3
      have g3' : (jq (escN c) l k).size + x.size < 16777216 := g3
      clear g3
      have HQ : Hid (qs (escN c) l (k + 1) = qs (escN c) l k ++ [bs (quoL (escN c) (un x))]) := qs_succ _ l k x hxk
      have HJ : Hid (jq (escN c) l (k + 1) = (jq (escN c) l k ++ bs (quoL (escN c) (un x))) ++ ⟨#[32]⟩) := jq_succ _ l k x hxk
      have hq := fun W => quote_p x c W (by omega)
      have hql : (bs (quoL (escN c) (un x))).size ≤ 2 * x.size + 2 := by rw [size_bs]; have := quoL_length (escN c) (un x); rw [un_length] at this; exact this
      have hblt : b < w.heap.size := World.block_lt_of_cell? w _ hc1
      have hc2 : wr.cell? ⟨b, o + k, none⟩ = some (.string x) := (hB.cell (p := ⟨b, o + k, none⟩) hblt).trans hc1
      clear hxk hc1
      have e1 : (k : Int) < (l.length : Int) := by omega
      have e2 : (k : Int) < 200 := by omega
      have e3 : ((jq (escN c) l k).size : Int) + (x.size : Int) < 16777216 := by omega
      have HS : Hid ((jq (escN c) l (k + 1)).size ≤ 67108864) := by
        unfold Hid
        rw [HJ.out, ← un_length, un_append, un_append, List.length_append, List.length_append, un_length, un_length, un_length]
        have : (⟨#[32]⟩ : ByteArray).size = 1 := rfl
        omega
      generalize bs (quoL (escN c) (un x)) = Q at *
      generalize hJk : jq (escN c) l k = J at *
      go_wp2_with fail
      refine (hq _).mono ?_
      rintro e w2 ⟨rfl, b2⟩
      have hB2 := below_join hB b2
      have own2 := (show w2.ownsRow w.heap.size 9 1 _ k (strs (qs (escN c) l k)) from by
        refine ⟨hown.1, ?_⟩
        rcases hown.2 with hn | ⟨g, cap, cur, rfl, hg, hgg, rest⟩
        · exact .inl hn
        · exact .inr ⟨g, cap, cur, rfl, hg, (b2.block g (Array.getElem?_eq_some_iff.1 hgg).1).trans hgg, rest⟩)
      have hsz2 := hB2.size
      go_wp2_with (at_builtin; refine wpList_append_own _ rfl _ _ 47 rfl w.heap.size 9 i0 (.string ⟨#[]⟩) 1 16 Tryd.underlying47 hi z0 z1 z2 rfl (by decide) _ _ _ rfl (own2.alloc _) ⟨w2.heap.size, 0, none⟩ 1 1 [.string Q] rfl rfl (cell_one' _ _ _) (by simp [Value.oneCell']) (by unfold maxLen; omega) (by omega) (by simp; omega) ?_; intro v1 w1 hown1 hgrow1 _)
      have hb1 : Below w.heap.size w w1 := (hB2.alloc hsz2 _).grown hgrow1 (by simp; omega) (fun j hj => (own_ge own2 j hj.symm).1)
      have hfin : w1.ownsRow w.heap.size 9 1 v1 (k + 1) (strs (qs (escN c) l (k + 1))) := by rw [HQ.out, strs_append]; exact hown1
      first
        | exact ⟨⟨k + 1, by omega, by omega, by go_num, by rw [HJ.out], HS.out, hfin, hb1⟩, by simp [intOf]; omega⟩
        | (go_roundw
           case rel => exact ⟨k + 1, by omega, by omega, by go_num, by rw [HJ.out], HS.out, hfin, hb1⟩
           case measure => simp [intOf]; omega)
    · have HSP : Hid (splitR (escN c) (un (jq (escN c) l k)) = .ok (plcQ (escN c) ((l.take k).map un) 0)) := by unfold Hid jq; rw [un_bs]; exact split_join _ heo _
      have hSp := fun W => split_ok (jq (escN c) l k) c _ HSP.out W (by omega)
      have HG : Hid (∀ i, i < k → ∃ (p : Int) (R : ByteArray), (wdsOf (jq (escN c) l k) (plcQ (escN c) ((l.take k).map un) 0))[i]? = some ⟨p, R⟩ ∧ (qs (escN c) l k)[i]? = some R) := fun i h => qd_get _ l k i h hk
      have hplen : (plcQ (escN c) ((l.take k).map un) 0).length = k := by rw [plcQ_length, List.length_map, List.length_take]; omega
      have hwlen : (wdsOf (jq (escN c) l k) (plcQ (escN c) ((l.take k).map un) 0)).length = k := by rw [wdsOf_length, hplen]
      rw [hplen] at hSp
      have hcond : (¬ (k : Int) < (l.length : Int)) ∨ ((k : Int) < (l.length : Int) ∧ ¬ (k : Int) < 200) ∨ ((k : Int) < (l.length : Int) ∧ (k : Int) < 200 ∧ ∃ x, l[k]? = some x ∧ ¬ ((jq (escN c) l k).size : Int) + (x.size : Int) < 16777216) := by
        by_cases h1 : k < l.length
        · by_cases h2 : k < 200
          · obtain ⟨x, hx⟩ : ∃ x, l[k]? = some x := ⟨_, List.getElem?_eq_getElem h1⟩
            refine .inr (.inr ⟨by omega, by omega, x, hx, fun h => hgo ⟨h1, h2, ?_⟩⟩)
            rw [hx]
            show (jq (escN c) l k).size + x.size < 16777216
            omega
          · exact .inr (.inl ⟨by omega, by omega⟩)
        · exact .inl (by omega)
      clear hgo HSP hplen
      generalize wdsOf (jq (escN c) l k) (plcQ (escN c) ((l.take k).map un) 0) = WD at *
      generalize jq (escN c) l k = J at *
      generalize qs (escN c) l k = QS at *
      have hnk : ((k : Int) != (k : Int)) = false := by simp
      obtain ⟨aw, cw, rfl, haw⟩ := own_sh1 hown
      rcases hcond with e1 | ⟨e1, e2⟩ | ⟨e1, e2, x, hxk, e3⟩
      case' inr.inr =>
        obtain ⟨b, o, rfl, hc1⟩ := HC.out k x hxk
        have hblt : b < w.heap.size := World.block_lt_of_cell? w _ hc1
        have hc2 : wr.cell? ⟨b, o + k, none⟩ = some (.string x) := (hB.cell (p := ⟨b, o + k, none⟩) hblt).trans hc1
        have hxs := HX.out x (List.mem_of_getElem? hxk)
        clear hxk hc1 hblt
      all_goals
        clear HC HX
        go_wp2_with fail
        refine (hSp _).mono ?_
        rintro e w2 ⟨lv, rfl, ho, b2⟩
        have hB2 := below_join hB b2
        have he2 := he.below hB2
        obtain ⟨al, cl, bl, ol, hlv, hal, hcl, hwc⟩ : WdsAt w2 lv WD := wds_of_owns (by rw [hwlen]; exact ho)
        rw [hwlen] at hlv hcl
        subst hlv
        have own2 : w2.ownsRow w.heap.size 9 1 (.slice aw k cw) k (strs QS) := own_up hown b2
        have HW : Hid (∀ i, i < k → ∃ g p R, al = some ⟨bl, ol, none⟩ ∧ aw = some ⟨g, 0, none⟩ ∧ WdC w2 bl (ol + i * 2) ⟨p, R⟩ ∧ w2.cell? ⟨g, i, none⟩ = some (.string R)) := fun i h => by
          obtain ⟨p, R, g1, g2⟩ := HG.out i h
          obtain ⟨g, rfl⟩ := haw (by omega)
          refine ⟨g, p, R, hal (fun e => by rw [e] at hwlen; simp at hwlen; omega), rfl, hwc i _ g1, row_cell own2 i _ ?_⟩
          unfold strs; rw [List.getElem?_map, g2]; rfl
        clear own2 hown hwc hal haw ho HG
        go_wp2
        go_loopw [11] (fun iv wq => ∃ i q : Nat, i ≤ k ∧ iv = .int .i64 i ∧ wq = w2.drewN q) (fun iv _ => k - (intOf iv).toNat)
        case atStart => exact ⟨0, 0, Nat.zero_le _, rfl, rfl⟩
        case round =>
          obtain ⟨i, q, hik, rfl, rfl⟩ := hrel
          have i0' : (0 : Int) ≤ (i : Int) := by omega
          by_cases hlt : i < k
          · obtain ⟨g, p, R, rfl, rfl, ⟨d0, d1⟩, d2⟩ := HW.out i hlt
            have j1 : (i : Int) < (k : Int) := by omega
            have hne : (R.toList != R.toList) = false := by simp
            clear HW d0
            have d1' : w2.cell? ⟨bl, ol + i * 2 + 1, none⟩ = some (.string R) := d1
            clear d1
            go_wp2
            go_quiet (fail)
            go_wp2
            go_roundw
            case rel => exact ⟨i + 1, _, by omega, by go_num, rfl⟩
            case measure => simp [intOf]; omega
          · obtain rfl : i = k := by omega
            clear HW
            have hBq : Below w.heap.size w (w2.drewN q) := below_drawn hB2 q
            go_wp2_with fail
            refine (works_w _ (he.below hBq)).mono ?_
            rintro e w3 ⟨rfl, b3⟩
            go_wp2
            go_ret
            exact ⟨rfl, below_join hBq b3⟩
end Go.Proofs.YtmnggnmgiflhjaaDoor
