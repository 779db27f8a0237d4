/-
  A number, or the one of two bounds that it is past. No program.
-/
import Derived.Test.YtlkoenlimdfifaaRows
import Derived.IntWalk
namespace Go.Proofs.Ytlkoenlimdfifaa

/-- n, or the one of lo and hi that it is past. -/
def clampI (n lo hi : Int) : Int := min (max n lo) hi
theorem clampI_ge {n lo hi : Int} (h : lo ≤ hi) : lo ≤ clampI n lo hi := by unfold clampI; omega
theorem clampI_le (n lo hi : Int) : clampI n lo hi ≤ hi := by unfold clampI; omega
theorem clampI_eq {n lo hi : Int} (h1 : lo ≤ n) (h2 : n ≤ hi) : clampI n lo hi = n := by unfold clampI; omega
theorem clampI_lo {n lo hi : Int} (h : n ≤ lo) (h2 : lo ≤ hi) : clampI n lo hi = lo := by unfold clampI; omega
theorem clampI_hi {n lo hi : Int} (h : hi ≤ n) : clampI n lo hi = hi := by unfold clampI; omega
end Go.Proofs.Ytlkoenlimdfifaa
