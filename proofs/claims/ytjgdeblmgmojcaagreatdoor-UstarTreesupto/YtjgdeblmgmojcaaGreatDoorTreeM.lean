/- An entry whose path, mode and target a tree can have is written, and so is its whiteout: nothing of a program. -/
import Derived.Test.YtjgdeblmgmojcaaGreatDoorHeadT
import Derived.Test.YtjgdeblmgmojcaaGreatDoorOfU
namespace Go.Proofs.YtjgdeblmgmojcaaGreatDoor
open Go Go.RowKit

theorem m0 : mostN (fld 0) = 2097151 := by decide
theorem m3 : mostN (fld 3) = 8589934591 := by decide
theorem nums_ok (h : Hd) (h0 : 0 ≤ h.mode ∧ h.mode ≤ 2097151) (h3 : 0 ≤ h.size ∧ h.size ≤ 8589934591) (h1 : h.uid = 0) (h2 : h.gid = 0) (h4 : h.time = 0) (h5 : h.major = 0) (h6 : h.minor = 0) : numsOK h = true := by
  have k0 : numOK h 0 = true := by unfold numOK; rw [m0]; show (decide (0 ≤ h.mode) && decide (h.mode ≤ 2097151)) = true; simp [h0.1, h0.2]
  have k3 : numOK h 3 = true := by unfold numOK; rw [m3]; show (decide (0 ≤ h.size) && decide (h.size ≤ 8589934591)) = true; simp [h3.1, h3.2]
  have k1 : numOK h 1 = true := by unfold numOK; rw [show num h 1 = h.uid from rfl, h1]; decide
  have k2 : numOK h 2 = true := by unfold numOK; rw [show num h 2 = h.gid from rfl, h2]; decide
  have k4 : numOK h 4 = true := by unfold numOK; rw [show num h 4 = h.time from rfl, h4]; decide
  have k5 : numOK h 5 = true := by unfold numOK; rw [show num h 5 = h.major from rfl, h5]; decide
  have k6 : numOK h 6 = true := by unfold numOK; rw [show num h 6 = h.minor from rfl, h6]; decide
  unfold numsOK
  rw [k0, k1, k2, k3, k4, k5, k6]; rfl
theorem noz_nil : noZ ⟨#[]⟩ = true := by decide
theorem fit_ok (h : Hd) (h1 : noZ h.path = true) (h2 : noZ h.link = true) (h3 : h.user = ⟨#[]⟩) (h4 : h.group = ⟨#[]⟩) : fitB h = true := by
  unfold fitB
  rw [h1, h2, h3, h4, noz_nil]; decide
theorem white_good {p : ByteArray} (hp : checkN p = 0) : Good ⟨whiteoutB p, 0, 0, 0, 0, 0, 48, ⟨#[]⟩, ⟨#[]⟩, ⟨#[]⟩, 0, 0⟩ := by
  obtain ⟨t1, t2, hsz, z1, z2⟩ := tree_facts hp
  exact ⟨fit_ok _ z2 noz_nil rfl rfl, t2.1, by show (⟨#[]⟩ : ByteArray).size ≤ 100; decide, nums_ok _ ⟨by show (0 : Int) ≤ 0; decide, by show (0 : Int) ≤ 2097151; decide⟩ ⟨by show (0 : Int) ≤ 0; decide, by show (0 : Int) ≤ 8589934591; decide⟩ rfl rfl rfl rfl rfl⟩
theorem tree_good {e : En} (hp : checkN e.path = 0) (hk : 1 ≤ e.kind ∧ e.kind ≤ 3) (hm : 0 ≤ e.mode ∧ e.mode ≤ 4095) (hl : e.link.size ≤ 100) (hd : e.data.size ≤ 1048576) (hz : noZ e.link = true) : Good (ofP e) ∧ (ofP e).path = e.path := by
  obtain ⟨t1, _, _, z1, _⟩ := tree_facts hp
  obtain h | h | h : e.kind = 1 ∨ e.kind = 2 ∨ e.kind = 3 := by omega
  · have ho : ofP e = ⟨e.path, e.mode, 0, 0, 0, 0, 53, ⟨#[]⟩, ⟨#[]⟩, ⟨#[]⟩, 0, 0⟩ := by unfold ofP; rw [if_pos h]
    rw [ho]
    exact ⟨⟨fit_ok _ z1 noz_nil rfl rfl, t1.1, by show (⟨#[]⟩ : ByteArray).size ≤ 100; decide, nums_ok _ ⟨hm.1, by show e.mode ≤ 2097151; omega⟩ ⟨by show (0 : Int) ≤ 0; decide, by show (0 : Int) ≤ 8589934591; decide⟩ rfl rfl rfl rfl rfl⟩, rfl⟩
  · have ho : ofP e = ⟨e.path, e.mode, 0, 0, e.data.size, 0, 48, ⟨#[]⟩, ⟨#[]⟩, ⟨#[]⟩, 0, 0⟩ := by unfold ofP; rw [if_neg (by omega), if_pos h]
    rw [ho]
    exact ⟨⟨fit_ok _ z1 noz_nil rfl rfl, t1.1, by show (⟨#[]⟩ : ByteArray).size ≤ 100; decide, nums_ok _ ⟨hm.1, by show e.mode ≤ 2097151; omega⟩ ⟨by show (0 : Int) ≤ (e.data.size : Int); omega, by show (e.data.size : Int) ≤ 8589934591; omega⟩ rfl rfl rfl rfl rfl⟩, rfl⟩
  · have ho : ofP e = ⟨e.path, 511, 0, 0, 0, 0, 50, e.link, ⟨#[]⟩, ⟨#[]⟩, 0, 0⟩ := by unfold ofP; rw [if_neg (by omega), if_neg (by omega), if_pos h]
    rw [ho]
    exact ⟨⟨fit_ok _ z1 hz rfl rfl, t1.1, hl, nums_ok _ ⟨by show (0 : Int) ≤ 511; decide, by show (511 : Int) ≤ 2097151; decide⟩ ⟨by show (0 : Int) ≤ 0; decide, by show (0 : Int) ≤ 8589934591; decide⟩ rfl rfl rfl rfl rfl⟩, rfl⟩
end Go.Proofs.YtjgdeblmgmojcaaGreatDoor
