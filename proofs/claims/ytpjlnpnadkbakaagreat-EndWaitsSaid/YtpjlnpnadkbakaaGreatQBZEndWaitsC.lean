/-
  EndWaits: what holds of the whole program, reckoned.
-/
import Derived.Test.YtpjlnpnadkbakaaGreatRows
import Derived.Test.YtpjlnpnadkbakaaGreatChecked
import Derived.OpenShut
import Derived.ShutString
import Derived.JoinedOf
namespace Go.Proofs.YtpjlnpnadkbakaaGreat
set_option maxRecDepth 10000
namespace endWaits
theorem closed : joinedFacts Tryz.pinned.checked.prog 4 Tryz.f4 Rows.endWaitsSpec Rows.endWaitsRow = true := by kernel_rfl
end endWaits
end Go.Proofs.YtpjlnpnadkbakaaGreat
