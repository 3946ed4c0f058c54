/- WordsQuotes: its walk. -/
import Derived.Test.YtmnggnmgiflhjaaDoorDocQ
import Derived.Test.YtmnggnmgiflhjaaDoorWorksW
namespace Go.Proofs.YtmnggnmgiflhjaaDoor
open Go Go.RowKit

set_option maxRecDepth 100000 in
set_option maxHeartbeats 4000000 in
theorem wordsquotes_law (s : ByteArray) (c : UInt8) (w : World) (he : ErrType w) (hs : s.size ≤ 1099511627776) : Calls Tryd.prog 4 #[.string s, .int .u8 c.toNat] w fun e w' => e = .returned (.bool true) ∧ Below w.heap.size w w' := by
  have h1 := fun W => quote_p s c W hs
  have h2 := fun W => quote_r s c W hs
  have hq : ((bs (quoL (escN c) (un s))).toList == (bs (quoL (escN c) (un s))).toList) = true := by simp
  generalize bs (quoL (escN c) (un s)) = r at *
  go_enter Tryd.func4, Tryd.ntmps4
  go_wp2_with fail
  refine (h1 _).mono ?_
  rintro e w1 ⟨rfl, b1⟩
  go_wp2_with fail
  refine (h2 _).mono ?_
  rintro e w2 ⟨rfl, b2⟩
  have hb2 := below_join b1 b2
  have he2 := he.below hb2
  go_wp2_with fail
  refine (works_w _ he2).mono ?_
  rintro e w3 ⟨rfl, b3⟩
  have hb3 := below_join hb2 b3
  go_wp2
  go_ret
  exact ⟨rfl, hb3⟩
end Go.Proofs.YtmnggnmgiflhjaaDoor
