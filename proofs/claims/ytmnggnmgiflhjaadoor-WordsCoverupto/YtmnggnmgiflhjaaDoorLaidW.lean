/- A byte among the arguments; a Join among them. -/
import Derived.Test.YtmnggnmgiflhjaaDoorLaid
import Derived.ChangeArms
import Derived.SizedLaws
namespace Go.Proofs.YtmnggnmgiflhjaaDoor
open Go.ChangeShapes Go.WideShapes Go.RowKit

theorem byte_of (n : Int) (h : (Lit.int .u8 n).wf = true) : ∃ c : UInt8, n = (c.toNat : Int) := by
  have h1 : IntKind.u8.min ≤ n ∧ n ≤ IntKind.u8.max := by simpa [Lit.wf] using h
  have e1 : IntKind.u8.min = 0 := by decide
  have e2 : IntKind.u8.max = 255 := by decide
  rw [e1, e2] at h1
  obtain ⟨h2, h3⟩ := h1
  exact ⟨UInt8.ofNat n.toNat, by rw [UInt8.toNat_ofNat']; omega⟩
end Go.Proofs.YtmnggnmgiflhjaaDoor
