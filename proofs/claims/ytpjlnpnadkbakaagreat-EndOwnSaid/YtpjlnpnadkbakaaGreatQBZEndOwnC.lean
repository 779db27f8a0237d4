/-
  EndOwn: what holds of the whole program, reckoned.
-/
import Derived.Test.YtpjlnpnadkbakaaGreatQBXOw
import Derived.Test.YtpjlnpnadkbakaaGreatRows
import Derived.Test.YtpjlnpnadkbakaaGreatChecked
import Derived.JoinedOf
import Derived.OpenShut
import Derived.ShutString
namespace Go.Proofs.YtpjlnpnadkbakaaGreat
set_option maxRecDepth 10000
namespace endOwn
theorem closed : joinedFacts Tryz.pinned.checked.prog 14 Tryz.f14 Rows.endOwnSpec Rows.endOwnRow = true := by kernel_rfl
end endOwn
end Go.Proofs.YtpjlnpnadkbakaaGreat
