/- The document's reader, whole: braces in braces, as deep as the text goes. -/
import Derived.Test.YtjmekcakiacdfabGreatDoorDcK
import Derived.Test.YtjmekcakiacdfabGreatDoorDcQ
namespace Go.Proofs.YtjmekcakiacdfabGreatDoor
open Go Go.RowKit

theorem var_all (st : List Nat) (W : World) (B R : Nat) (s : ByteArray) (e : UInt8) (k : Nat) (v : Value) (ns : List (List UInt8)) (h : DR W B R s e k 0 v ns) (he : (36 : UInt8) ≠ e) (t : List UInt8) (hd : (un s).drop k = 36 :: t) (hB : B ≤ W.heap.size) (hnl : ns.length ≤ k) (hP : PlainT st B R s e k) (hs : s.size ≤ 1099511627776) : Calls Tryz.prog 54 #[.pointer (some ⟨R, 0, none⟩)] W fun x w' => VPost st W B R s e k v ns x w' := by
  have hlen := congrArg List.length hd
  rw [List.length_drop, List.length_cons, un_length] at hlen
  have hnl2 : ns.length ≤ 1099511627776 := by omega
  by_cases hn : nmL t = 0
  · match t, hd, hn with
    | [], hd, _ => exact var_end st W B R s e k v ns h he hd hs
    | c :: r, hd, hn =>
      by_cases hc : c = 123
      · subst hc
        by_cases hu : nmL r = 0
        · exact var_bad st W B R s e k v ns h he r hd hu hs
        · match hr : r.drop (nmL r) with
          | [] => exact var_cut st W B R s e k v ns h he r hd hu hr hB hnl2 hs
          | a :: q =>
            by_cases ha : a = 125
            · subst ha; exact var_brace st W B R s e k v ns h he r q hd hu hr hB hnl2 hs
            · match q, hr with
              | [], hr => exact var_one st W B R s e k v ns h he r a hd hu hr ha hB hnl2 hs
              | c2 :: q2, hr =>
                by_cases hb : a = 58
                · subst hb
                  by_cases h5 : c2 = 45
                  · subst h5; exact var_ifE st W B R s e k v ns h he r q2 hd hu hr hB hnl hP hs
                  · by_cases h3 : c2 = 43
                    · subst h3; exact var_ifF st W B R s e k v ns h he r q2 hd hu hr hB hnl hP hs
                    · exact var_three st W B R s e k v ns h he r c2 q2 hd hu hr h5 h3 hB hnl2 hs
                · exact var_two st W B R s e k v ns h he r a c2 q2 hd hu hr ha hb hB hnl2 hs
      · exact var_lone st W B R s e k v ns h he c r hd hn hc hs
  · exact var_name st W B R s e k v ns h he t hd hn hB hnl2 hs
theorem varT_of {st : List Nat} {B R : Nat} {s : ByteArray} {e : UInt8} {k : Nat} (hP : PlainT st B R s e k) (hs : s.size ≤ 1099511627776) : VarT st B R s e k := by
  rintro W2 k2 v2 ns2 hk hd he ⟨t, ht⟩ hB hn
  exact var_all st W2 B R s e k2 v2 ns2 hd he t ht hB hn (fun W3 k3 v3 ns3 h1 h2 => hP W3 k3 v3 ns3 (by omega) h2) hs
theorem LPost.to {st st2 : List Nat} {E E2 : Nat → Prop} {hi hi2 : Nat} {W : World} {B R : Nat} {s : ByteArray} {e : UInt8} {k : Nat} {v : Value} {ns : List (List UInt8)} {x : Ending} {w' : World} (h : LPost st st2 E hi W B R s e k v ns x w') (hE : ∀ j, E j → E2 j) (hh : hi ≤ hi2) : LPost st st2 E2 hi2 W B R s e k v ns x w' := by
  obtain ⟨lv, ts, us, k2, no2, v2, ns2, h1, h2, h3, h4, h5, h6, h7, h8⟩ := h
  exact ⟨lv, ts, us, k2, no2, v2, ns2, h1, h2, h3, h4, h5, by omega, fun h0 => ⟨(h7 h0).1, (h7 h0).2.1, (h7 h0).2.2.1, (h7 h0).2.2.2.1, hE _ (h7 h0).2.2.2.2⟩, h8⟩
theorem plainT_all (B R : Nat) (s : ByteArray) (e : UInt8) (hs : s.size ≤ 1099511627776) : ∀ (m : Nat) (st : List Nat) (k : Nat), s.size - k ≤ m → PlainT st B R s e k := by
  intro m
  induction m with
  | zero =>
    intro st k hm W2 k2 v2 ns2 h1 h2
    omega
  | succ m ih =>
    intro st k hm W2 k2 v2 ns2 h1 h2 hd hB hn
    have hV : VarT (2 :: st) B R s e k2 := varT_of (ih (2 :: st) k2 (by omega)) hs
    have hQ : QuoT (2 :: st) B R s e k2 := fun W3 k3 v3 ns3 g1 g2 gd gB gn => quoted_r (2 :: st) W3 B R s e k3 v3 ns3 gd g2 gB gn hs (varT_of (ih (3 :: 2 :: st) k3 (by omega)) hs)
    refine (plain_r true (2 :: st) rfl (fun _ => ⟨st, rfl⟩) (fun h => by cases h) W2 B R s e k2 v2 ns2 hd h2 hB hn hs hV hQ).mono ?_
    intro x w' h
    exact h.to (fun j hj => hj.1 rfl) (Nat.le_refl _)
theorem plain0_r (W : World) (B R : Nat) (s : ByteArray) (e : UInt8) (v : Value) (h : DR W B R s e 0 0 v []) (hB : B ≤ W.heap.size) (hs : s.size ≤ 1099511627776) : Calls Tryz.prog 35 #[.pointer (some ⟨R, 0, none⟩), .bool false] W fun x w' => LPost [0] [0] (fun k => k = s.size) (s.size + 1) W B R s e 0 v [] x w' := by
  refine (plain_r false [0] rfl (fun h => by cases h) (fun _ => rfl) W B R s e 0 v [] h (Nat.zero_le _) hB (Nat.le_refl _) hs (varT_of (plainT_all B R s e hs _ [0] 0 (Nat.le_refl _)) hs) (fun W3 k3 v3 ns3 g1 g2 gd gB gn => quoted_r [0] W3 B R s e k3 v3 ns3 gd g2 gB gn hs (varT_of (plainT_all B R s e hs _ _ k3 (Nat.le_refl _)) hs))).mono ?_
  intro x w' h
  exact h.to (fun j hj => hj.2 rfl) (Nat.le_refl _)
/-- What a whole text has been read as. -/
theorem whole_ok {e : UInt8} {m : Nat} (hm : m ≤ 1) {l : List UInt8} {ts : List Pt} (h : Run e [m] l [m] [] (flatL ts)) : (eachL e [m] l).2 = 0 ∧ Eqv (eachL e [m] l).1 (flatL ts) := by
  have e0 : endS [m] = 0 := by
    have : m = 0 ∨ m = 1 := by omega
    rcases this with rfl | rfl <;> rfl
  obtain ⟨h1, h2⟩ := h
  rw [eachL_nil] at h1 h2
  exact ⟨h1.trans e0, by rwa [List.append_nil] at h2⟩
end Go.Proofs.YtjmekcakiacdfabGreatDoor
