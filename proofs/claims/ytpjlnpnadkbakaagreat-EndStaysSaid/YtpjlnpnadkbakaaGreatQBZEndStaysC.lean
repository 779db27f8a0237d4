/-
  EndStays: what holds of the whole program, reckoned.
-/
import Derived.Test.YtpjlnpnadkbakaaGreatQBXSt
import Derived.Test.YtpjlnpnadkbakaaGreatRows
import Derived.Test.YtpjlnpnadkbakaaGreatChecked
import Derived.OpenShut
import Derived.ShutString
import Derived.JoinedOf
namespace Go.Proofs.YtpjlnpnadkbakaaGreat
set_option maxRecDepth 10000
namespace endStays
theorem closed : joinedFacts Tryz.pinned.checked.prog 12 Tryz.f12 Rows.endStaysSpec Rows.endStaysRow = true := by kernel_rfl
end endStays
end Go.Proofs.YtpjlnpnadkbakaaGreat
