/-
  EndAnswers: what holds of the whole program, reckoned.
-/
import Derived.Test.YtpjlnpnadkbakaaGreatRows
import Derived.Test.YtpjlnpnadkbakaaGreatChecked
import Derived.OpenShut
import Derived.ShutString
import Derived.JoinedOf
namespace Go.Proofs.YtpjlnpnadkbakaaGreat
set_option maxRecDepth 10000
namespace endAnswers
theorem closed : joinedFacts Tryz.pinned.checked.prog 6 Tryz.f6 Rows.endAnswersSpec Rows.endAnswersRow = true := by kernel_rfl
end endAnswers
end Go.Proofs.YtpjlnpnadkbakaaGreat
