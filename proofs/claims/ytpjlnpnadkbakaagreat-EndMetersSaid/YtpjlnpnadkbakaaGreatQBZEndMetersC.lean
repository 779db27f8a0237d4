/-
  EndMeters: what holds of the whole program, reckoned.
-/
import Derived.Test.YtpjlnpnadkbakaaGreatRows
import Derived.Test.YtpjlnpnadkbakaaGreatChecked
import Derived.OpenShut
import Derived.ShutString
import Derived.JoinedOf
namespace Go.Proofs.YtpjlnpnadkbakaaGreat
set_option maxRecDepth 10000
namespace endMeters
theorem closed : joinedFacts Tryz.pinned.checked.prog 9 Tryz.f9 Rows.endMetersSpec Rows.endMetersRow = true := by kernel_rfl
end endMeters
end Go.Proofs.YtpjlnpnadkbakaaGreat
