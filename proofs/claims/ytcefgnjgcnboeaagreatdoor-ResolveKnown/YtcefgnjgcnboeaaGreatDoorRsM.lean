/- Ways through a tree: what a step of the walk does, and the whole walk; nothing of a program. -/
import Derived.Test.YtcefgnjgcnboeaaGreatDoorTakeX
import Derived.Test.YtcefgnjgcnboeaaGreatDoorWalkW
namespace Go.Proofs.YtcefgnjgcnboeaaGreatDoor
open Go Go.RowKit

def dotB : ByteArray := ⟨#[46]⟩
def ddB : ByteArray := ⟨#[46, 46]⟩
def dirE (p : ByteArray) : Ent := ⟨p, 1, 493, ⟨#[]⟩, ⟨#[]⟩⟩
/-- Where a walk is. -/
structure St where
  L : List Ent
  here : ByteArray
  left : List ByteArray
  hops : Nat
  made : List ByteArray
def slashed (s : ByteArray) : Bool := Lib.hasPrefix (un s) [47]
def layS (st : St) (p : ByteArray) (rest : List ByteArray) : Int × St := (putAll st.L (dirE p), { st with L := laidL st.L (dirE p), here := p, left := rest, made := st.made ++ [p] })
def absN (m : Mn) (st : St) (p : ByteArray) (rest : List ByteArray) : Int × St :=
  match m.ab with
  | 0 => (10, st)
  | 1 => layS st p rest
  | _ => if rest = [] then (checkN p, { st with here := p, left := rest }) else layS st p rest
def linkS (st : St) (e : Ent) (rest : List ByteArray) : Int × St :=
  if st.hops = 40 then (12, st) else (0, { st with here := if slashed e.link then ⟨#[]⟩ else st.here, left := namesB e.link ++ rest, hops := st.hops + 1 })
def isFile (m : Mn) (e : Ent) (rest : List ByteArray) : Bool := (e.kind == 2) && (m.dirs || !rest.isEmpty)
def isLink (m : Mn) (e : Ent) (rest : List ByteArray) : Bool := (e.kind == 3) && !(m.stay && rest.isEmpty)
def thereN (m : Mn) (st : St) (p : ByteArray) (rest : List ByteArray) (e : Ent) : Int × St :=
  if isFile m e rest then (13, st) else if isLink m e rest then linkS st e rest else (0, { st with here := p, left := rest })
def stepN (m : Mn) (st : St) (c : ByteArray) (rest : List ByteArray) : Int × St :=
  if c = dotB then (0, { st with left := rest })
  else if c = ddB then (0, { st with here := parentB st.here, left := rest })
  else match getE st.L (joinB st.here c) with
    | none => absN m st (joinB st.here c) rest
    | some e => thereN m st (joinB st.here c) rest e

theorem absN_more (m : Mn) (st : St) (p : ByteArray) (rest : List ByteArray) (h : (absN m st p rest).1 = 0) : (absN m st p rest).2.hops = st.hops ∧ (absN m st p rest).2.left = rest ∧ (absN m st p rest).2.here = p := by
  unfold absN at h ⊢
  split at h
  · simp at h
  · exact ⟨rfl, rfl, rfl⟩
  · split at h
    · rename_i hr; rw [if_pos hr]; exact ⟨rfl, rfl, rfl⟩
    · rename_i hr; rw [if_neg hr]; exact ⟨rfl, rfl, rfl⟩
/-- A step either takes a piece off or follows a link. -/
theorem step_more (m : Mn) (st : St) (c : ByteArray) (rest : List ByteArray) (h : (stepN m st c rest).1 = 0) :
    ((stepN m st c rest).2.hops = st.hops ∧ (stepN m st c rest).2.left = rest) ∨
    (∃ e, getE st.L (joinB st.here c) = some e ∧ isLink m e rest = true ∧ st.hops ≠ 40 ∧ stepN m st c rest = (0, { st with here := if slashed e.link then ⟨#[]⟩ else st.here, left := namesB e.link ++ rest, hops := st.hops + 1 })) := by
  unfold stepN at h ⊢
  by_cases h1 : c = dotB
  · rw [if_pos h1]; exact .inl ⟨rfl, rfl⟩
  · rw [if_neg h1] at h ⊢
    by_cases h2 : c = ddB
    · rw [if_pos h2]; exact .inl ⟨rfl, rfl⟩
    · rw [if_neg h2] at h ⊢
      cases hg : getE st.L (joinB st.here c) with
      | none =>
        rw [hg] at h
        have := absN_more m st _ rest h
        exact .inl ⟨this.1, this.2.1⟩
      | some e =>
        rw [hg] at h
        simp only at h ⊢
        unfold thereN at h ⊢
        by_cases h3 : isFile m e rest = true
        · rw [if_pos h3] at h; simp at h
        · rw [if_neg h3] at h ⊢
          by_cases h4 : isLink m e rest = true
          · rw [if_pos h4] at h ⊢
            unfold linkS at h ⊢
            by_cases h5 : st.hops = 40
            · rw [if_pos h5] at h; simp at h
            · rw [if_neg h5]
              exact .inr ⟨e, rfl, h4, h5, rfl⟩
          · rw [if_neg h4]; exact .inl ⟨rfl, rfl⟩
/-- The whole walk, of at most so many links more: its error, where it stands then, where it stood behind each piece. -/
def goF (m : Mn) : Nat → St → Int × St × List ByteArray
  | 0, st => (0, st, [])
  | f + 1, st => match st.left with
    | [] => (0, st, [])
    | c :: rest =>
      if (stepN m st c rest).1 = 0 then
        ((goF m f (stepN m st c rest).2).1, (goF m f (stepN m st c rest).2).2.1, (stepN m st c rest).2.here :: (goF m f (stepN m st c rest).2).2.2)
      else ((stepN m st c rest).1, st, [])
/-- What is left of a walk, at most: a link has at most 100 pieces. -/
def msr (st : St) : Nat := st.left.length + 200 * (40 - st.hops)
/-- Links lead to at most 100 bytes. -/
def ShortL (L : List Ent) : Prop := ∀ e ∈ L, e.kind = 3 → e.link.size ≤ 100
theorem cut_len (l : List UInt8) : (cutL l).length ≤ l.length + 1 := by
  induction l with
  | nil => simp [cutL]
  | cons c l ih =>
    unfold cutL
    split
    · simp; omega
    · have := List.length_pos_iff.2 (cutL_ne l)
      simp; omega
theorem pieces_len (s : ByteArray) : (piecesB s).length ≤ s.size + 1 := by
  unfold piecesB
  have := cut_len (un s)
  rw [un_length] at this
  simpa using this
theorem names_len (s : ByteArray) : (namesB s).length ≤ s.size + 1 := Nat.le_trans (List.length_filter_le _ _) (pieces_len s)
theorem cut_sz (l : List UInt8) : ∀ x ∈ cutL l, x.length ≤ l.length := by
  induction l with
  | nil => simp [cutL]
  | cons c l ih =>
    intro x hx
    unfold cutL at hx
    split at hx
    · rcases List.mem_cons.1 hx with rfl | hx
      · simp
      · have := ih x hx; simp; omega
    · have hne := cutL_ne l
      rcases hcl : cutL l with _ | ⟨y, ys⟩
      · exact absurd hcl hne
      · rw [hcl] at hx ih
        simp only [List.headD_cons, List.tail_cons] at hx
        rcases List.mem_cons.1 hx with rfl | hx
        · have := ih y (by simp); simp; omega
        · have := ih x (by simp [hx]); simp; omega
theorem pieces_sz (s : ByteArray) : ∀ x ∈ piecesB s, x.size ≤ s.size := by
  intro x hx
  unfold piecesB at hx
  obtain ⟨y, hy, rfl⟩ := List.mem_map.1 hx
  rw [size_bs, ← un_length]; exact cut_sz _ y hy
theorem names_sz (s : ByteArray) : ∀ x ∈ namesB s, x.size ≤ s.size := fun x hx => pieces_sz s x (List.mem_filter.1 hx).1
theorem get_mem {L : List Ent} {p : ByteArray} {e : Ent} (h : getE L p = some e) : e ∈ L ∧ e.path = p ∧ p.size ≠ 0 := by
  unfold getE at h
  split at h
  · cases h
  · rename_i h0; exact ⟨List.mem_of_find?_eq_some h, pathIs_iff.1 (List.find?_some h), h0⟩
theorem link_kind {m : Mn} {e : Ent} {rest : List ByteArray} (h : isLink m e rest = true) : e.kind = 3 := by
  unfold isLink at h
  rw [Bool.and_eq_true] at h
  simpa using h.1
theorem step_msr (m : Mn) (st : St) (c : ByteArray) (rest : List ByteArray) (hl : st.left = c :: rest) (hs : ShortL st.L) (hh : st.hops ≤ 40) (h : (stepN m st c rest).1 = 0) : msr (stepN m st c rest).2 < msr st ∧ (stepN m st c rest).2.hops ≤ 40 := by
  rcases step_more m st c rest h with ⟨h1, h2⟩ | ⟨e, hg, hk, h40, hst⟩
  · unfold msr
    rw [h1, h2, hl]; simp; omega
  · rw [hst]
    obtain ⟨he, _, _⟩ := get_mem hg
    have h1 := hs e he (link_kind hk)
    have h2 := names_len e.link
    unfold msr
    rw [hl]
    simp; omega
end Go.Proofs.YtcefgnjgcnboeaaGreatDoor
