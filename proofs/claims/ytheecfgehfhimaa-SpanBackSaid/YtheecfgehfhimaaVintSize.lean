/-
  What Size answers: contracts over the program.
-/
import Derived.Test.YtheecfgehfhimaaRows
import Derived.Test.YtheecfgehfhimaaVintMath
import Derived.Test.YtheecfgehfhimaaWithin
import Derived.WalkLawsBesides
namespace Go.Proofs.Ytheecfgehfhimaa
open Go.RowKit

set_option maxHeartbeats 400000 in
theorem size_any (n : Int) (w : World) :
    Calls Try.prog 31 #[.int .i64 n] w fun e w' => e = .returned (.int .i64 (szV n)) ∧ w = w' := by
  go_enter Try.func31, Try.ntmps31
  go_wp2
  all_goals go_ret
  all_goals (refine ⟨ret_i ?_, rfl⟩; simp only [szV]; (repeat' (first | omega | split)))
end Go.Proofs.Ytheecfgehfhimaa
