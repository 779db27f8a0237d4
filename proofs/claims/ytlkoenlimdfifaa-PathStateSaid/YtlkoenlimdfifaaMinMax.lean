/-
  max and min of two ints at run time. Equations of the program's builtins.
-/
import Derived.Test.YtlkoenlimdfifaaRows
import Derived.IntWalk
import Derived.WalkLawsBesides
import Derived.Handy
namespace Go.Proofs.Ytlkoenlimdfifaa
open Go.RowKit

theorem run_max2 (a b K : Int) (hK : K = max a b) (ts : Array TypeId) (t : TypeId) (w : World) : (Builtin.max_ ts t #[.int .i64 a, .int .i64 b]).run Try.prog w = .ok (.int .i64 K) w := by
  rw [run_max_int2]
  congr 2
  split <;> omega
theorem run_min2 (a b K : Int) (hK : K = min a b) (ts : Array TypeId) (t : TypeId) (w : World) : (Builtin.min_ ts t #[.int .i64 a, .int .i64 b]).run Try.prog w = .ok (.int .i64 K) w := by
  rw [run_min_int2]
  congr 2
  split <;> omega
end Go.Proofs.Ytlkoenlimdfifaa
