/-
  EndJoins: what holds of the whole program, reckoned.
-/
import Derived.Test.YtpjlnpnadkbakaaGreatRows
import Derived.Test.YtpjlnpnadkbakaaGreatChecked
import Derived.OpenShut
import Derived.ShutString
import Derived.JoinedOf
namespace Go.Proofs.YtpjlnpnadkbakaaGreat
set_option maxRecDepth 10000
namespace endJoins
theorem closed : joinedFacts Tryz.pinned.checked.prog 7 Tryz.f7 Rows.endJoinsSpec Rows.endJoinsRow = true := by kernel_rfl
end endJoins
end Go.Proofs.YtpjlnpnadkbakaaGreat
