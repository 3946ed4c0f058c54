/- A tree in memory and the list of its entries: what is laid, what is taken; what a list lacks to be a tree. -/
import Derived.Test.YtgildlfanfbebaaGreatDoorLayP
import Derived.Test.YtgildlfanfbebaaGreatDoorWrongW
import Derived.Test.YtgildlfanfbebaaGreatDoorRndW
import Derived.Test.YtgildlfanfbebaaGreatDoorEvery
namespace Go.Proofs.YtgildlfanfbebaaGreatDoor
open Go Go.RowKit

theorem data_get (s : ByteArray) (j : Nat) (h : j < s.size) : s.data[j]! = s[j] := getElem!_pos s.data j h
/-- A text without a slash is its own last name; any other is its parent, a slash, and its last name. -/
theorem last_split (p : ByteArray) : ((47 : UInt8) ∉ un p ∧ parentB p = ⟨#[]⟩ ∧ lastB p = p) ∨ (un p = un (parentB p) ++ 47 :: un (lastB p) ∧ (47 : UInt8) ∉ un (lastB p)) := by
  rcases Lib.lastIdx_spec p 47 p.size with ⟨h, hn⟩ | ⟨i, hi, h, hc, hn⟩
  · left
    have e : Lib.lastIndexByte p 47 = -1 := h
    refine ⟨fun hm => ?_, by unfold parentB; rw [e]; rfl, ?_⟩
    · obtain ⟨j, hj, he⟩ := List.getElem_of_mem hm
      rw [un_length] at hj
      have h1 := hn j hj
      rw [data_get p j hj] at h1
      have h2 := un_getElem? p j hj
      rw [List.getElem?_eq_getElem (by rw [un_length]; exact hj), he] at h2
      exact h1 (by rw [← Option.some.inj h2]; rfl)
    · unfold lastB; rw [e]
      exact un_inj (by rw [un_extract, List.take_of_length_le (by rw [un_length]; omega)]; rfl)
  · right
    have e : Lib.lastIndexByte p 47 = i := h
    rw [data_get p i hi] at hc
    have hget : (un p)[i]? = some 47 := by rw [un_getElem? p i hi]; congr 1; exact UInt8.toNat_inj.1 (by show p[i].toNat = 47; omega)
    have e1 : un (parentB p) = (un p).take i := by unfold parentB; rw [e, if_neg (by omega), un_extract]; simp
    have e2 : un (lastB p) = (un p).drop (i + 1) := by
      unfold lastB; rw [e, un_extract, List.take_of_length_le (by rw [un_length]; omega)]
      congr 1
    have hlt : i < (un p).length := by rw [un_length]; exact hi
    have hdrop : (un p).drop i = 47 :: (un p).drop (i + 1) := by
      rw [List.drop_eq_getElem_cons hlt]
      rw [List.getElem?_eq_getElem hlt] at hget
      rw [Option.some.inj hget]
    refine ⟨by rw [e1, e2, ← hdrop, List.take_append_drop], fun hm => ?_⟩
    rw [e2] at hm
    obtain ⟨j, hj, he⟩ := List.getElem_of_mem hm
    have hj2 : i + 1 + j < p.size := by rw [List.length_drop, un_length] at hj; omega
    have h1 := hn (i + 1 + j) (by omega) hj2
    rw [data_get p _ hj2] at h1
    rw [List.getElem_drop] at he
    have h2 := un_getElem? p _ hj2
    rw [List.getElem?_eq_getElem (by rw [un_length]; exact hj2), he] at h2
    exact h1 (by rw [← Option.some.inj h2]; rfl)

def wh : List UInt8 := [46, 119, 104, 46]
/-- Where the last name begins, and what the whiteout is. -/
theorem cut_noslash {l : List UInt8} (h : (47 : UInt8) ∉ l) : cutL l = [l] := by
  refine cutL_miss l ?_
  induction l with
  | nil => rfl
  | cons c l ih =>
    have h0 : c ≠ 47 := fun e => h (by simp [e])
    unfold Lib.indexByte
    rw [if_neg (by simpa using h0), ih (fun hm => h (by simp [hm]))]; rfl
/-- What a right path is. -/
theorem check_facts {p : ByteArray} (h : checkN p = 0) : p.size ≠ 0 ∧ p.size ≤ 255 ∧ ∀ x ∈ piecesB p, nameN x = 0 := by
  unfold checkN at h
  cases h1 : p.toList.isEmpty with
  | true => rw [h1] at h; simp at h
  | false =>
    rw [h1] at h
    simp only [Bool.false_eq_true, if_false] at h
    refine ⟨by have := (isEmpty_false p).1 h1; omega, ?_⟩
    cases h2 : (piecesB p).any (fun x => nameN x != 0) with
    | true => rw [h2] at h; simp at h
    | false =>
      rw [h2] at h
      simp only [Bool.false_eq_true, if_false] at h
      by_cases h3 : 32 < (piecesB p).length
      · rw [if_pos h3] at h; omega
      · rw [if_neg h3] at h
        by_cases h4 : 255 < p.size
        · rw [if_pos h4] at h; omega
        · refine ⟨by omega, fun x hx => ?_⟩
          have := List.any_eq_false.1 h2 x hx
          simpa using this
theorem name_full {x : ByteArray} (h : nameN x = 0) : x.size ≠ 0 := by
  intro h0
  have := (isEmpty_iff x).2 h0
  unfold nameN at h
  rw [if_pos this] at h; omega
/-- The names of a right path: its parent's, and its last. -/
theorem names_split {p : ByteArray} (h : checkN p = 0) : namesP (parentB p) ++ [un (lastB p)] = namesP p := by
  obtain ⟨h0, _, hn⟩ := check_facts h
  rcases last_split p with ⟨h1, h2, h3⟩ | ⟨h1, h2⟩
  · rw [h2, h3]
    unfold namesP
    rw [if_neg h0, cut_noslash h1]; rfl
  · have hp : (parentB p).size ≠ 0 := fun hz => by
      have hu : un (parentB p) = [] := by rw [← List.length_eq_zero_iff, un_length]; exact hz
      rw [hu] at h1
      have : bs [] ∈ piecesB p := by
        unfold piecesB
        rw [h1, cut_append]
        simp [cutL]
      exact name_full (hn _ this) rfl
    unfold namesP
    rw [if_neg hp, if_neg h0, h1, cut_append, cut_noslash h2]

def pathIs (q : ByteArray) (e : Ent) : Bool := un e.path == un q
theorem pathIs_iff {q : ByteArray} {e : Ent} : pathIs q e = true ↔ e.path = q := by
  unfold pathIs; rw [beq_iff_eq]; exact ⟨un_inj, fun h => by rw [h]⟩
theorem Says.find {F : Pic} {L : List Ent} (h : Says F L) (q : ByteArray) (hq : q.size ≠ 0) : (F (namesP q)).map Nd.e = L.find? (pathIs q) := by
  cases hf : L.find? (pathIs q) with
  | none =>
    have hn := List.find?_eq_none.1 hf
    cases hx : F (namesP q) with
    | none => rfl
    | some x =>
      obtain ⟨h1, h2⟩ := h.of' _ x (names_ne hq) hx
      exact absurd (pathIs_iff.2 (names_inj (h.full _ h1) hq h2)) (hn _ h1)
  | some e =>
    have h1 := List.mem_of_find?_eq_some hf
    have h2 : e.path = q := pathIs_iff.1 (List.find?_some hf)
    obtain ⟨x, hx, rfl⟩ := h.at' e h1
    rw [← h2, hx]; rfl
/-- Is a path's parent there, and a directory? -/
def upN (L : List Ent) (p : ByteArray) : Int := if (parentB p).size = 0 then 0 else match L.find? (pathIs (parentB p)) with | none => 10 | some e => if e.kind ≠ 1 then 13 else 0
def bytesL (L : List Ent) : Nat := (L.map fun e => e.data.size).sum
def manyN (L : List Ent) (e : Ent) : Int := match L.find? (pathIs e.path) with
  | none => if 4096 < L.length + 1 ∨ (16777216 : Int) < (bytesL L : Int) + e.data.size then 5 else 0
  | some o => if (o.kind == 1) ≠ (e.kind == 1) then 14 else if 4096 < L.length ∨ (16777216 : Int) < (bytesL L : Int) + e.data.size - o.data.size then 5 else 0
def putN (L : List Ent) (e : Ent) : Int := if upN L e.path ≠ 0 then upN L e.path else manyN L e
theorem layN_eq {F : Pic} {L : List Ent} (h : Says F L) {e : Ent} (hc : checkN e.path = 0) : layN F L.length (bytesL L) e = putN L e := by
  have h0 := (check_facts hc).1
  have hm : ∀ u : Nd, F (namesP (parentB e.path)) = some u → u.e.kind = 1 → layN F L.length (bytesL L) e = manyN L e := fun u hu hk => by
    have hf := h.find e.path h0
    unfold layN manyN
    rw [hu, names_split hc]
    simp only
    rw [if_neg (by simpa using hk)]
    cases hx : F (namesP e.path) with
    | none => rw [hx] at hf; rw [← hf]; rfl
    | some o => rw [hx] at hf; rw [← hf]; rfl
  unfold putN upN
  by_cases hz : (parentB e.path).size = 0
  · rw [if_pos hz, if_neg (by omega)]
    obtain ⟨rt, hrt, hk, _⟩ := h.root
    exact hm rt (by unfold namesP; rw [if_pos hz]; exact hrt) hk
  · rw [if_neg hz]
    have hf := h.find (parentB e.path) hz
    cases hx : F (namesP (parentB e.path)) with
    | none =>
      rw [hx] at hf
      rw [← hf]
      simp [layN, hx]
    | some u =>
      rw [hx] at hf
      rw [← hf]
      simp only [Option.map]
      by_cases hk : u.e.kind = 1
      · rw [if_neg (by simpa using hk)]
        simpa using hm u hx hk
      · rw [if_pos hk, if_pos (by decide)]
        simp [layN, hx, hk]
/-- The list with an entry in its place. -/
def laidL (L : List Ent) (e : Ent) : List Ent := L.filter (fun x => decide (compareN x.path e.path < 0)) ++ e :: L.filter (fun x => decide (0 < compareN x.path e.path))
theorem laid_mem {L : List Ent} {e x : Ent} : x ∈ laidL L e ↔ x = e ∨ (x ∈ L ∧ x.path ≠ e.path) := by
  have hr := order_range x.path e.path
  have hz : compareN x.path e.path = 0 ↔ x.path = e.path := ⟨order_zero, fun h => by rw [h]; exact order_self _⟩
  unfold laidL
  simp only [List.mem_append, List.mem_cons, List.mem_filter, decide_eq_true_eq]
  constructor
  · rintro (⟨h1, h2⟩ | rfl | ⟨h1, h2⟩)
    · exact .inr ⟨h1, fun h => by rw [hz.2 h] at h2; omega⟩
    · exact .inl rfl
    · exact .inr ⟨h1, fun h => by rw [hz.2 h] at h2; omega⟩
  · rintro (rfl | ⟨h1, h2⟩)
    · exact .inr (.inl rfl)
    · by_cases h3 : compareN x.path e.path < 0
      · exact .inl ⟨h1, h3⟩
      · exact .inr (.inr ⟨h1, by have : compareN x.path e.path ≠ 0 := fun h => h2 (hz.1 h); omega⟩)
theorem laid_order {L : List Ent} (h : L.Pairwise ltE) (e : Ent) : (laidL L e).Pairwise ltE := by
  unfold laidL
  refine List.pairwise_append.2 ⟨h.sublist List.filter_sublist, List.pairwise_cons.2 ⟨fun b hb => ?_, h.sublist List.filter_sublist⟩, fun a ha b hb => ?_⟩
  · have := (List.mem_filter.1 hb).2
    have hn := order_neg b.path e.path
    simp at this
    unfold ltE; omega
  · have h1 := (List.mem_filter.1 ha).2
    simp at h1
    rcases List.mem_cons.1 hb with rfl | hb
    · exact h1
    · have h2 := (List.mem_filter.1 hb).2
      have hn := order_neg b.path e.path
      simp at h2
      exact order_trans h1 (show compareN e.path b.path < 0 by omega)
theorem laid_end {L : List Ent} {e : Ent} (h : ∀ x ∈ L, ltE x e) : laidL L e = L ++ [e] := by
  unfold laidL
  rw [List.filter_eq_self.2 (fun x hx => by have := h x hx; unfold ltE at this; exact decide_eq_true this), List.filter_eq_nil_iff.2 (fun x hx => by have := h x hx; unfold ltE at this; simp; omega)]
theorem up_there {F : Pic} {L : List Ent} (h : Says F L) {e : Ent} (hu : upN L e.path = 0) : ∃ u, F (namesP (parentB e.path)) = some u ∧ u.e.kind = 1 := by
  unfold upN at hu
  by_cases hz : (parentB e.path).size = 0
  · obtain ⟨rt, hrt, hk, _⟩ := h.root
    exact ⟨rt, by unfold namesP; rw [if_pos hz]; exact hrt, hk⟩
  · rw [if_neg hz] at hu
    have hf := h.find (parentB e.path) hz
    cases hx : F (namesP (parentB e.path)) with
    | none => rw [hx] at hf; rw [← hf] at hu; simp at hu
    | some u =>
      rw [hx] at hf; rw [← hf] at hu
      simp only [Option.map] at hu
      by_cases hk : u.e.kind = 1
      · exact ⟨u, rfl, hk⟩
      · rw [if_pos hk] at hu; omega
/-- An entry is laid. -/
theorem Says.laid {F : Pic} {L : List Ent} (h : Says F L) {e : Ent} (hc : checkN e.path = 0) (hu : upN L e.path = 0) {z : Nd} (hz : z.e = e) : Says (setPic F (namesP e.path) (some z)) (laidL L e) := by
  have h0 := (check_facts hc).1
  have hne := names_ne h0
  have diff : ∀ x ∈ L, x.path ≠ e.path → namesP x.path ≠ namesP e.path := fun x hx hp hn => hp (names_inj (h.full x hx) h0 hn)
  obtain ⟨u, hup, _⟩ := up_there h hu
  refine ⟨?_, ?_, ?_, ?_, laid_order h.order e, ?_⟩
  · obtain ⟨rt, h1, h2, h3⟩ := h.root
    exact ⟨rt, by rw [setPic_other _ _ _ (Ne.symm hne)]; exact h1, h2, h3⟩
  · intro ns x hns hx
    by_cases hn : ns = namesP e.path
    · subst hn
      rw [setPic_same] at hx; cases hx
      rw [hz]; exact ⟨laid_mem.2 (.inl rfl), rfl⟩
    · rw [setPic_other _ _ _ hn] at hx
      obtain ⟨h1, h2⟩ := h.of' ns x hns hx
      exact ⟨laid_mem.2 (.inr ⟨h1, fun hp => hn (by rw [← h2, hp])⟩), h2⟩
  · intro x hx
    rcases laid_mem.1 hx with rfl | ⟨h1, h2⟩
    · exact ⟨z, setPic_same _ _ _, hz⟩
    · obtain ⟨y, hy, hye⟩ := h.at' x h1
      exact ⟨y, by rw [setPic_other _ _ _ (diff x h1 h2)]; exact hy, hye⟩
  · intro x hx
    rcases laid_mem.1 hx with rfl | ⟨h1, _⟩
    · exact h0
    · exact h.full x h1
  · intro ns y hns
    by_cases hn : ns = namesP e.path
    · subst hn; rw [setPic_same] at hns; cases hns
    · rw [setPic_other _ _ _ hn] at hns
      by_cases hm : ns ++ [y] = namesP e.path
      · rw [← names_split hc] at hm
        have := List.append_inj_left' hm rfl
        rw [this, hup] at hns; cases hns
      · rw [setPic_other _ _ _ hm]; exact h.gone ns y hns
/-- The list without a path and what lies below. -/
def goneL (L : List Ent) (ns : List (List UInt8)) : List Ent := L.filter fun e => !ns.isPrefixOf (namesP e.path)
theorem Says.taken {F : Pic} {L : List Ent} (h : Says F L) {ns : List (List UInt8)} (hns : ns ≠ []) : Says (cutPic F ns) (goneL L ns) := by
  have mem : ∀ {x : Ent}, x ∈ goneL L ns ↔ x ∈ L ∧ ¬ ns <+: namesP x.path := fun {x} => by
    unfold goneL
    rw [List.mem_filter]
    constructor
    · rintro ⟨a, b⟩
      exact ⟨a, fun hp => by rw [List.isPrefixOf_iff_prefix.2 hp] at b; cases b⟩
    · rintro ⟨a, b⟩
      refine ⟨a, ?_⟩
      cases hh : ns.isPrefixOf (namesP x.path) with
      | true => exact absurd (List.isPrefixOf_iff_prefix.1 hh) b
      | false => rfl
  refine ⟨?_, ?_, ?_, fun x hx => h.full x (mem.1 hx).1, h.order.sublist List.filter_sublist, ?_⟩
  · obtain ⟨rt, h1, h2, h3⟩ := h.root
    refine ⟨rt, ?_, h2, h3⟩
    unfold cutPic
    rw [if_neg (fun hp => hns (List.prefix_nil.1 hp))]; exact h1
  · intro ms x hms hx
    unfold cutPic at hx
    split at hx
    · cases hx
    · rename_i hp
      obtain ⟨h1, h2⟩ := h.of' ms x hms hx
      exact ⟨mem.2 ⟨h1, by rw [h2]; exact hp⟩, h2⟩
  · intro x hx
    obtain ⟨h1, h2⟩ := mem.1 hx
    obtain ⟨y, hy, hye⟩ := h.at' x h1
    exact ⟨y, by unfold cutPic; rw [if_neg h2]; exact hy, hye⟩
  · intro ms y hm
    unfold cutPic at hm ⊢
    split at hm
    · rename_i hp
      rw [if_pos (hp.trans (List.prefix_append _ _))]
    · split
      · rfl
      · exact h.gone ms y hm
theorem nodup_len : ∀ (a b : List (List (List UInt8))), a.Nodup → a ⊆ b → a.length ≤ b.length
  | [], _, _, _ => Nat.zero_le _
  | x :: a, b, h, hs => by
    obtain ⟨h1, h2⟩ := List.nodup_cons.1 h
    have hx : x ∈ b := hs (by simp)
    have := nodup_len a (b.erase x) h2 (fun y hy => (List.mem_erase_of_ne (fun e => h1 (by rw [← e]; exact hy))).2 (hs (by simp [hy])))
    rw [List.length_erase_of_mem hx] at this
    have := List.length_pos_of_mem hx
    simp; omega
/- No map has more than 4096. -/
theorem TreeW.tight {W : World} {P : Program} {k T : TypeId} {base N : Nat} {F : Pic} {L : List Ent} (h : TreeW W P k T base N F) (hk : P.underlying k = some .string) (hs : Says F L) (hl : L.length ≤ 4096) : TreeW W P k T base 4096 F := by
  refine ⟨h.node, fun ns x m hx hm => ⟨(h.kids ns x m hx hm).1, ?_⟩, h.leaf, h.gone, h.apart⟩
  have hq := (h.kids ns x m hx hm).2
  obtain ⟨D, h1, h2, h3⟩ := hq.keys hk
  obtain ⟨hnd, hmem⟩ := h3 _ (List.Perm.refl _)
  have hle : (strKeys D).length ≤ L.length := by
    have hnd2 : ((strKeys D).map fun y => ns ++ [y]).Nodup := List.pairwise_map.2 (hnd.imp fun {a b} hab e => hab (by simpa using e))
    have hsub : ((strKeys D).map fun y => ns ++ [y]) ⊆ L.map fun e => namesP e.path := fun z hz => by
      obtain ⟨y, hy, rfl⟩ := List.mem_map.1 hz
      have := (hmem y).1 hy
      cases hv : F (ns ++ [y]) with
      | none => simp [kidsOf, hv] at this
      | some v =>
        obtain ⟨g1, g2⟩ := hs.of' _ v (by simp) hv
        exact List.mem_map.2 ⟨v.e, g1, g2⟩
    have := nodup_len _ _ hnd2 hsub
    simpa using this
  obtain ⟨D2, g1, g2⟩ := hq
  have : D2 = D := by
    obtain ⟨es, c, e1, _, _, rfl⟩ := g1
    obtain ⟨es2, c2, e2, _, _, rfl⟩ := h1
    rw [e1] at e2; cases e2; rfl
  subst this
  refine ⟨D2, ?_, g2⟩
  obtain ⟨es, c, e1, e2, e3, rfl⟩ := h1
  refine ⟨es, c, e1, e2, ?_, rfl⟩
  simp only [strKeys, List.length_map, length_sorted] at hle
  have : es.toList.length = es.size := by simp
  omega
/-- A tree in memory, of just these entries. -/
structure TreeOf (W : World) (tb base : Nat) (F : Pic) (L : List Ent) : Prop where
  at' : TreeAt W tb base 4096 F L.length (bytesL L)
  says : Says F L
  right : ∀ e ∈ L, wrongN e = 0
  few : L.length ≤ 4096
  light : bytesL L ≤ 16777216
theorem TreeOf.below {W W' : World} {tb base : Nat} {F : Pic} {L : List Ent} (h : TreeOf W tb base F L) (hb : Below W.heap.size W W') : TreeOf W' tb base F L := ⟨h.at'.below hb, h.says, h.right, h.few, h.light⟩
theorem wrong_check {e : Ent} (h : wrongN e = 0) : checkN e.path = 0 := by
  unfold wrongN at h
  split at h
  · omega
  · split at h
    · rename_i h1; exact absurd h h1
    · rename_i h1; simpa using h1
theorem wrong_data {e : Ent} (h : wrongN e = 0) : e.data.size ≤ 1048576 := by
  unfold wrongN at h
  split at h
  · omega
  · split at h
    · omega
    · split at h
      · omega
      · split at h
        · omega
        · split at h
          · omega
          · rename_i h5
            split at h
            · omega
            · rename_i h6
              by_cases hk : e.kind = 2
              · have : ¬ 1048576 < e.data.size := fun hh => h5 ⟨hk, hh⟩
                omega
              · have : e.data.toList.isEmpty = true := by
                  cases hd : e.data.toList.isEmpty with
                  | true => rfl
                  | false => exact absurd (.inl ⟨hk, hd⟩) h6
                have := (isEmpty_iff _).1 this
                omega
def ooN (before p : ByteArray) : Int := if compareN before p = 0 then 11 else if 0 < compareN before p then 1 else 0
def lastP (L : List Ent) : ByteArray := match L.getLast? with | some d => d.path | none => ⟨#[]⟩
/-- What is wrong with an entry behind those of a tree. -/
def oneN (L : List Ent) (e : Ent) : Int := if wrongN e ≠ 0 then wrongN e else if ooN (lastP L) e.path ≠ 0 then ooN (lastP L) e.path else putN L e
/-- What a list lacks: the error, and the entry's number. -/
def checkGo (L : List Ent) : List Ent → Int × Nat
  | [] => (0, 0)
  | e :: r => if oneN L e ≠ 0 then (oneN L e, L.length) else checkGo (L ++ [e]) r
theorem oo_behind {L : List Ent} (h : L.Pairwise ltE) {e : Ent} (ho : ooN (lastP L) e.path = 0) : ∀ x ∈ L, ltE x e := by
  intro x hx
  rcases List.eq_nil_or_concat L with rfl | ⟨l, d, rfl⟩
  · cases hx
  · have hd : lastP (l.concat d) = d.path := by simp [lastP]
    rw [hd] at ho
    have hlt : ltE d e := by
      unfold ooN at ho
      have := order_range d.path e.path
      unfold ltE
      by_cases h1 : compareN d.path e.path = 0
      · rw [if_pos h1] at ho; omega
      · rw [if_neg h1] at ho
        by_cases h2 : 0 < compareN d.path e.path
        · rw [if_pos h2] at ho; omega
        · omega
    rw [List.concat_eq_append] at h hx
    rcases List.mem_append.1 hx with hx | hx
    · exact order_trans ((List.pairwise_append.1 h).2.2 x hx d (by simp)) hlt
    · obtain rfl : x = d := by simpa using hx
      exact hlt
/-- A right entry behind those of a tree, that may stand there: it is laid. -/
theorem put_end {L : List Ent} {e : Ent} (h : ∀ x ∈ L, ltE x e) : L.find? (pathIs e.path) = none := by
  refine List.find?_eq_none.2 (fun x hx hp => ?_)
  have h1 := h x hx
  have h2 := pathIs_iff.1 hp
  unfold ltE at h1
  rw [h2, order_self] at h1; omega
theorem TreeOf.laid {W W' : World} {tb base : Nat} {F : Pic} {L : List Ent} (h : TreeOf W tb base F L) {e : Ent} (hw : wrongN e = 0) (hp : putN L e = 0) {z : Nd} (hz : z.e = e)
    (ht : TreeAt W' tb base (4096 + 1) (setPic F (namesP (parentB e.path) ++ [un (lastB e.path)]) (some z)) (layK F L.length e) (layQ F (bytesL L) e)) : TreeOf W' tb base (setPic F (namesP e.path) (some z)) (laidL L e) := by
  have hc := wrong_check hw
  have h0 := (check_facts hc).1
  have hu : upN L e.path = 0 := by
    unfold putN at hp
    by_cases h1 : upN L e.path = 0
    · exact h1
    · rw [if_pos h1] at hp; exact absurd hp h1
  have hm : manyN L e = 0 := by unfold putN at hp; rw [if_neg (by simpa using hu)] at hp; exact hp
  have hs := h.says.laid hc hu hz
  have hf := h.says.find e.path h0
  rw [names_split hc] at ht
  have hlay : (laidL L e).length = layK F L.length e ∧ ((bytesL (laidL L e) : Nat) : Int) = layQ F (bytesL L) e ∧ (laidL L e).length ≤ 4096 ∧ bytesL (laidL L e) ≤ 16777216 := by
    have key : ∀ M : List Ent, (laidL M e).length + (M.filter (pathIs e.path)).length = M.length + 1 ∧ bytesL (laidL M e) + bytesL (M.filter (pathIs e.path)) = bytesL M + e.data.size := by
      intro M
      unfold laidL bytesL
      induction M with
      | nil => simp
      | cons x M ih =>
        have hr := order_range x.path e.path
        by_cases e1 : x.path = e.path
        · have hz : compareN x.path e.path = 0 := by rw [e1]; exact order_self _
          have hpi : pathIs e.path x = true := pathIs_iff.2 e1
          simp [hz, hpi] at ih ⊢
          omega
        · have hz : compareN x.path e.path ≠ 0 := fun hh => e1 (order_zero hh)
          have hpi : pathIs e.path x = false := by
            cases hh : pathIs e.path x with
            | true => exact absurd (pathIs_iff.1 hh) e1
            | false => rfl
          by_cases h1 : compareN x.path e.path < 0
          · have h2 : ¬ 0 < compareN x.path e.path := by omega
            simp [h1, h2, hpi] at ih ⊢
            omega
          · have h2 : 0 < compareN x.path e.path := by omega
            simp [h1, h2, hpi] at ih ⊢
            omega
    obtain ⟨k1, k2⟩ := key L
    unfold manyN at hm
    unfold layK layQ
    rw [names_split hc]
    cases hx : F (namesP e.path) with
    | none =>
      rw [hx] at hf
      rw [← hf] at hm
      simp only [Option.map] at hm
      have hfl : L.filter (pathIs e.path) = [] := List.filter_eq_nil_iff.2 (fun x hx => by have := List.find?_eq_none.1 hf.symm x hx; simpa using this)
      rw [hfl] at k1 k2
      simp [bytesL] at k1 k2 ⊢
      split at hm
      · omega
      · rename_i hh
        simp [bytesL] at hh
        omega
    | some o =>
      rw [hx] at hf
      rw [← hf] at hm
      simp only [Option.map] at hm
      have ho := List.mem_of_find?_eq_some hf.symm
      have hop : o.e.path = e.path := pathIs_iff.1 (List.find?_some hf.symm)
      have hfl : L.filter (pathIs e.path) = [o.e] := by
        refine srt_ext _ _ (h.says.order.sublist List.filter_sublist) (List.pairwise_singleton _ _) (fun x => ?_)
        rw [List.mem_filter, List.mem_singleton, pathIs_iff]
        constructor
        · rintro ⟨h1, h2⟩
          obtain ⟨y, hy, hye⟩ := h.says.at' x h1
          rw [h2, hx] at hy
          cases hy
          exact hye.symm
        · rintro rfl
          exact ⟨ho, hop⟩
      rw [hfl] at k1 k2
      simp [bytesL] at k1 k2 ⊢
      split at hm
      · omega
      · split at hm
        · omega
        · rename_i hh
          simp [bytesL] at hh
          omega
  obtain ⟨q1, q2, q3, q4⟩ := hlay
  refine ⟨⟨ht.from', by rw [q1, q2]; exact ht.root, ht.tree.tight Tryz.underlying9 hs q3, ht.kinds⟩, hs, fun x hx => ?_, q3, q4⟩
  rcases laid_mem.1 hx with rfl | ⟨h1, _⟩
  · exact hw
  · exact h.right x h1
end Go.Proofs.YtgildlfanfbebaaGreatDoor
