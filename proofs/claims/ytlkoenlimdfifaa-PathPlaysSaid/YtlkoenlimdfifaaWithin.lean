/-
  What Within answers: contract over the program.
-/
import Derived.Test.YtlkoenlimdfifaaRows
import Derived.Test.YtlkoenlimdfifaaVintMath
import Derived.Test.YtlkoenlimdfifaaMem
import Derived.WalkLawsBesides
namespace Go.Proofs.Ytlkoenlimdfifaa
open Go.RowKit

set_option maxRecDepth 10000 in
set_option maxHeartbeats 400000 in
theorem within_any (v n : Int) (w : World) (h1 : 1 ≤ n) (h2 : n ≤ 4611686018427387904) :
    Calls Try.prog 8 #[.int .i64 v, .int .i64 n] w fun e w' => e = .returned (.int .i64 (v % n)) ∧ w = w' := by
  by_cases h : v.tmod n < 0
  · go_enter Try.func8, Try.ntmps8
    go_wp2
    go_ret
    exact ⟨ret_i (within_lt h1 h2 h), rfl⟩
  · go_enter Try.func8, Try.ntmps8
    go_wp2
    go_ret
    exact ⟨ret_i (within_ge h1 (by omega)), rfl⟩
end Go.Proofs.Ytlkoenlimdfifaa
