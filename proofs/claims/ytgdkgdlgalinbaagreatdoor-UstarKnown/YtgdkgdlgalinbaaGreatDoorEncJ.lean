/- What the document's Encode puts together is the block: nothing of a program. -/
import Derived.Test.YtgdkgdlgalinbaaGreatDoorBackN
import Derived.Test.YtgdkgdlgalinbaaGreatDoorRefX
namespace Go.Proofs.YtgdkgdlgalinbaaGreatDoor
open Go Go.RowKit

theorem fillK_fill (s : ByteArray) (n : Nat) (h : s.size ≤ n) : fillK (un s) n = fill n (un s) := by
  unfold fillK fill
  rw [List.take_of_length_le (by rw [un_length]; exact h)]
theorem encF_lt (h : Hd) (x y : List UInt8) (i : Nat) (hi : i ≠ 6) : encF h x i = encF h y i := by
  match i with
  | 0 | 1 | 2 | 3 | 4 | 5 => rfl
  | 6 => exact absurd rfl hi
  | 7 | 8 | 9 | 10 | 11 | 12 | 13 | 14 => rfl
  | _ + 15 => rfl
theorem enc_join {h : Hd} (g : Good h) {A B : ByteArray} (hA : un A = pre (encF h []) 6) (hB : un B = fr (encF h []) 7 9) :
    A ++ bs (octD (sumB (un (A ++ ⟨#[32, 32, 32, 32, 32, 32, 32, 32]⟩ ++ B))) 6) ++ ⟨#[0, 32]⟩ ++ B = bs (encL h) := by
  obtain ⟨e1, _⟩ := num_pre g
  obtain ⟨e2, _⟩ := enc_pre g
  have p1 : ∀ x, pre (encF h x) 6 = un A := fun x => by rw [hA]; exact pre_congr 6 (fun i hi => encF_lt h _ _ i (by omega))
  have p2 : ∀ x, fr (encF h x) 7 9 = un B := fun x => by rw [hB]; exact fr_congr 7 9 (fun i hi => encF_lt h _ _ i (by omega))
  rw [split_f _ 6 (by omega), p1, p2] at e1 e2
  have hAl : (un A).length = 148 := by
    have hl := numB_length h 7 (Nat.le_refl _)
    have hF := (num_pre g).2
    have := pre_length hF 6 (by omega)
    rw [p1] at this; exact this
  have hs : sumB (un (A ++ ⟨#[32, 32, 32, 32, 32, 32, 32, 32]⟩ ++ B)) = sumB (numB h 7) := by
    have hl := numB_length h 7 (Nat.le_refl _)
    have := sum_put (numB h 7) (un ⟨#[32, 32, 32, 32, 32, 32, 32, 32]⟩) hl rfl
    rw [← this]
    conv => rhs; rw [e1]
    rw [← hAl, putB_mid _ _ _ _ (by show 8 ≤ (List.replicate 8 (0 : UInt8)).length; decide)]
    rw [un_append, un_append]
    congr 1
  rw [hs]
  refine un_inj ?_
  rw [un_append, un_append, un_append, un_bs, un_bs, e2]
  show _ ++ _ ++ [0, 32] ++ _ = un A ++ (octD (sumB (numB h 7)) 6 ++ [0, 32]) ++ un B
  simp
theorem un0 : un ⟨#[0]⟩ = [0] := rfl
theorem unm : un ⟨#[117, 115, 116, 97, 114, 0, 48, 48]⟩ = magicL := rfl
theorem enc_A {h : Hd} {NM F0 O0 O1 O2 O3 O4 A : ByteArray} (hNM : (splitP h.path).2.1 = NM) (hs : NM.size ≤ 100) (hF0 : bs (fillK (un NM) 100) = F0)
    (h0 : bs (octD (num h 0).toNat 7) = O0) (h1 : bs (octD (num h 1).toNat 7) = O1) (h2 : bs (octD (num h 2).toNat 7) = O2) (h3 : bs (octD (num h 3).toNat 11) = O3) (h4 : bs (octD (num h 4).toNat 11) = O4)
    (hA : F0 ++ O0 ++ ⟨#[0]⟩ ++ O1 ++ ⟨#[0]⟩ ++ O2 ++ ⟨#[0]⟩ ++ O3 ++ ⟨#[0]⟩ ++ O4 ++ ⟨#[0]⟩ = A) : un A = pre (encF h []) 6 := by
  rw [← hA, ← hF0, ← h0, ← h1, ← h2, ← h3, ← h4]
  simp only [un_append, un_bs, un0]
  rw [fillK_fill NM 100 hs, ← hNM]
  simp only [pre, encF, List.nil_append, List.append_assoc]
  rfl
theorem enc_B {h : Hd} {T1 PF F1 F2 F3 F4 F5 O5 O6 B : ByteArray} (hPF : (splitP h.path).1 = PF) (hs : PF.size ≤ 155) (hl : h.link.size ≤ 100) (hu : h.user.size ≤ 32) (hg : h.group.size ≤ 32)
    (hT : bs [h.typ] = T1) (hF1 : bs (fillK (un h.link) 100) = F1) (hF2 : bs (fillK (un h.user) 32) = F2) (hF3 : bs (fillK (un h.group) 32) = F3) (hF4 : bs (fillK (un PF) 155) = F4) (hF5 : bs (fillK (un ⟨#[]⟩) 12) = F5)
    (h5 : bs (octD (num h 5).toNat 7) = O5) (h6 : bs (octD (num h 6).toNat 7) = O6)
    (hB : T1 ++ F1 ++ ⟨#[117, 115, 116, 97, 114, 0, 48, 48]⟩ ++ F2 ++ F3 ++ O5 ++ ⟨#[0]⟩ ++ O6 ++ ⟨#[0]⟩ ++ F4 ++ F5 = B) : un B = fr (encF h []) 7 9 := by
  rw [← hB, ← hF1, ← hF2, ← hF3, ← hF4, ← hF5, ← h5, ← h6, ← hT]
  simp only [un_append, un_bs, un0, unm]
  rw [fillK_fill PF 155 hs, fillK_fill _ 100 hl, fillK_fill _ 32 hu, fillK_fill _ 32 hg, ← hPF]
  simp only [fr, encF, List.nil_append, List.append_assoc]
  rfl
theorem enc_sizes {h : Hd} (g : Good h) {A B : ByteArray} (hA : un A = pre (encF h []) 6) (hB : un B = fr (encF h []) 7 9) : (A ++ ⟨#[32, 32, 32, 32, 32, 32, 32, 32]⟩ ++ B).size = 512 := by
  obtain ⟨e1, _⟩ := num_pre g
  have hl := numB_length h 7 (Nat.le_refl _)
  have p1 : pre (encF h (List.replicate 8 0)) 6 = un A := by rw [hA]; exact pre_congr 6 (fun i hi => encF_lt h _ _ i (by omega))
  have p2 : fr (encF h (List.replicate 8 0)) 7 9 = un B := by rw [hB]; exact fr_congr 7 9 (fun i hi => encF_lt h _ _ i (by omega))
  rw [split_f _ 6 (by omega), p1, p2] at e1
  rw [e1, List.length_append, List.length_append] at hl
  rw [← un_length, un_append, un_append, List.length_append, List.length_append]
  exact hl
theorem enc_zA {h : Hd} (g : Good h) {A : ByteArray} (hA : un A = pre (encF h []) 6) : A.size = 148 := by
  have p1 : pre (encF h (List.replicate 8 0)) 6 = un A := by rw [hA]; exact pre_congr 6 (fun i hi => encF_lt h _ _ i (by omega))
  have := pre_length (num_pre g).2 6 (by omega)
  rw [p1, un_length] at this; exact this
theorem enc_zB {h : Hd} (g : Good h) {A B : ByteArray} (hA : un A = pre (encF h []) 6) (hB : un B = fr (encF h []) 7 9) : B.size = 356 := by
  have h1 := enc_zA g hA
  have h2 := enc_sizes g hA hB
  rw [ByteArray.size_append, ByteArray.size_append, h1] at h2
  have h3 : (⟨#[32, 32, 32, 32, 32, 32, 32, 32]⟩ : ByteArray).size = 8 := rfl
  omega
theorem octal6 (u : Nat) (hu : u < 8 ^ 6) (W : World) : Calls Tryz.prog 31 #[.int .i64 u, .int .i64 6] W fun e w' => e = .returned (.string (bs (octD u 6))) ∧ Below W.heap.size W w' := octal_r u 6 (Nat.lt_trans hu (by decide)) (by decide) W
end Go.Proofs.YtgdkgdlgalinbaaGreatDoor
