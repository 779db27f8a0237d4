/-
  EndSide: what holds of the whole program, reckoned.
-/
import Derived.Test.YtpjlnpnadkbakaaGreatRows
import Derived.Test.YtpjlnpnadkbakaaGreatChecked
import Derived.OpenShut
import Derived.ShutString
import Derived.JoinedOf
namespace Go.Proofs.YtpjlnpnadkbakaaGreat
set_option maxRecDepth 10000
namespace endSide
theorem closed : joinedFacts Tryz.pinned.checked.prog 15 Tryz.f15 Rows.endSideSpec Rows.endSideRow = true := by kernel_rfl
end endSide
end Go.Proofs.YtpjlnpnadkbakaaGreat
