/-
  EndFalls: what holds of the whole program, reckoned.
-/
import Derived.Test.YtpjlnpnadkbakaaGreatRows
import Derived.Test.YtpjlnpnadkbakaaGreatChecked
import Derived.OpenShut
import Derived.ShutString
import Derived.JoinedOf
namespace Go.Proofs.YtpjlnpnadkbakaaGreat
set_option maxRecDepth 10000
namespace endFalls
theorem closed : joinedFacts Tryz.pinned.checked.prog 8 Tryz.f8 Rows.endFallsSpec Rows.endFallsRow = true := by kernel_rfl
end endFalls
end Go.Proofs.YtpjlnpnadkbakaaGreat
