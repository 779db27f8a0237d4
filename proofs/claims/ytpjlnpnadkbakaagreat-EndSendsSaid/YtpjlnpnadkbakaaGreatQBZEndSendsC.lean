/-
  EndSends: what holds of the whole program, reckoned.
-/
import Derived.Test.YtpjlnpnadkbakaaGreatRows
import Derived.Test.YtpjlnpnadkbakaaGreatChecked
import Derived.OpenShut
import Derived.ShutString
import Derived.JoinedOf
namespace Go.Proofs.YtpjlnpnadkbakaaGreat
set_option maxRecDepth 10000
namespace endSends
theorem closed : joinedFacts Tryz.pinned.checked.prog 3 Tryz.f3 Rows.endSendsSpec Rows.endSendsRow = true := by kernel_rfl
end endSends
end Go.Proofs.YtpjlnpnadkbakaaGreat
