/-
  EndChecks: what holds of the whole program, reckoned.
-/
import Derived.Test.YtpjlnpnadkbakaaGreatQBXEc
import Derived.Test.YtpjlnpnadkbakaaGreatRows
import Derived.Test.YtpjlnpnadkbakaaGreatChecked
import Derived.JoinedOf
import Derived.OpenShut
import Derived.ShutString
namespace Go.Proofs.YtpjlnpnadkbakaaGreat
set_option maxRecDepth 10000
namespace endChecks
theorem closed : joinedFacts Tryz.pinned.checked.prog 10 Tryz.f10 Rows.endChecksSpec Rows.endChecksRow = true := by kernel_rfl
end endChecks
end Go.Proofs.YtpjlnpnadkbakaaGreat
