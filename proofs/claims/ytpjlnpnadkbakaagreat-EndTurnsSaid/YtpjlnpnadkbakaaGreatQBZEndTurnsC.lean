/-
  EndTurns: what holds of the whole program, reckoned.
-/
import Derived.Test.YtpjlnpnadkbakaaGreatRows
import Derived.Test.YtpjlnpnadkbakaaGreatChecked
import Derived.OpenShut
import Derived.ShutString
import Derived.JoinedOf
namespace Go.Proofs.YtpjlnpnadkbakaaGreat
set_option maxRecDepth 10000
namespace endTurns
theorem closed : joinedFacts Tryz.pinned.checked.prog 13 Tryz.f13 Rows.endTurnsSpec Rows.endTurnsRow = true := by kernel_rfl
end endTurns
end Go.Proofs.YtpjlnpnadkbakaaGreat
