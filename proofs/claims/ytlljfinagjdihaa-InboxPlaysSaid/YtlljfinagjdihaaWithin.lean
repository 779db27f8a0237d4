/-
  What Within answers: contract over the program.
-/
import Derived.Test.YtlljfinagjdihaaRows
import Derived.Test.YtlljfinagjdihaaVintMath
import Derived.Test.YtlljfinagjdihaaMem
import Derived.WalkLawsBesides
namespace Go.Proofs.Ytlljfinagjdihaa
open Go.RowKit

set_option maxRecDepth 10000 in
set_option maxHeartbeats 400000 in
theorem within_any (v n : Int) (w : World) (h1 : 1 ≤ n) (h2 : n ≤ 4611686018427387904) :
    Calls Try.prog 9 #[.int .i64 v, .int .i64 n] w fun e w' => e = .returned (.int .i64 (v % n)) ∧ w = w' := by
  by_cases h : v.tmod n < 0
  · go_enter Try.func9, Try.ntmps9
    go_wp2
    go_ret
    exact ⟨ret_i (within_lt h1 h2 h), rfl⟩
  · go_enter Try.func9, Try.ntmps9
    go_wp2
    go_ret
    exact ⟨ret_i (within_ge h1 (by omega)), rfl⟩
end Go.Proofs.Ytlljfinagjdihaa
