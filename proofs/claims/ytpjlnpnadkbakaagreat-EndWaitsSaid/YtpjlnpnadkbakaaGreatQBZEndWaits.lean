/-
  Whatever the input, the law EndWaits of the landed program answers true: what the other end has no room for waits; when nothing is out, each tick asks again; the answer lets it go
-/
import Derived.Test.YtpjlnpnadkbakaaGreatQBZEndWaitsL
import Derived.Test.YtpjlnpnadkbakaaGreatQBZEndWaitsC
import Derived.OpenShut
import Derived.ShutString
import Derived.ChangeOld
namespace Go.Proofs.YtpjlnpnadkbakaaGreat
set_option maxRecDepth 10000
open Go.ChangeShapes Go.WideShapes Go.ChangeAt Go.RowKit
open Go.ChangeMaps (open_string shut_string)
namespace endWaits
theorem over : Rows.endWaitsRow.holds Tryz.pinned (OpenSpec.ofChange Rows.endWaitsSpec) :=
  OpenClaim.holds_of_wide 4 Tryz.f4 rfl rfl rfl rfl rfl rfl rfl ⟨rfl, rfl, rfl, rfl, rfl⟩ rfl rfl rfl rfl rfl (by kernel_rfl) Tryz.func4 closed
    (of_decide_eq_true (by kernel_rfl)) (by unfold Func.isWrapper; first | (rw [if_pos (by decide +kernel)]; kernel_rfl) | (rw [if_neg (by decide +kernel)]; exact ⟨rfl, rfl⟩))
    (fun os started H enc _ => lifted os started H enc)
end endWaits
theorem endWaits_holds : Rows.EndWaitsSaid := endWaits.over
end Go.Proofs.YtpjlnpnadkbakaaGreat
