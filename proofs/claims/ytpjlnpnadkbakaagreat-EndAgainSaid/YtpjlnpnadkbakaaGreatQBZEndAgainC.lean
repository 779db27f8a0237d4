/-
  EndAgain: what holds of the whole program, reckoned.
-/
import Derived.Test.YtpjlnpnadkbakaaGreatRows
import Derived.Test.YtpjlnpnadkbakaaGreatChecked
import Derived.OpenShut
import Derived.ShutString
import Derived.JoinedOf
namespace Go.Proofs.YtpjlnpnadkbakaaGreat
set_option maxRecDepth 10000
namespace endAgain
theorem closed : joinedFacts Tryz.pinned.checked.prog 5 Tryz.f5 Rows.endAgainSpec Rows.endAgainRow = true := by kernel_rfl
end endAgain
end Go.Proofs.YtpjlnpnadkbakaaGreat
