/-
  Whatever the input, the law EndAgain of the landed program answers true: what is not answered in time goes out again, with another number; what was acknowledged meanwhile does not
-/
import Derived.Test.YtpjlnpnadkbakaaGreatQBZEndAgainL
import Derived.Test.YtpjlnpnadkbakaaGreatQBZEndAgainC
import Derived.OpenShut
import Derived.ShutString
import Derived.ChangeOld
namespace Go.Proofs.YtpjlnpnadkbakaaGreat
set_option maxRecDepth 10000
open Go.ChangeShapes Go.WideShapes Go.ChangeAt Go.RowKit
open Go.ChangeMaps (open_string shut_string)
namespace endAgain
theorem over : Rows.endAgainRow.holds Tryz.pinned (OpenSpec.ofChange Rows.endAgainSpec) :=
  OpenClaim.holds_of_wide 5 Tryz.f5 rfl rfl rfl rfl rfl rfl rfl ⟨rfl, rfl, rfl, rfl, rfl⟩ rfl rfl rfl rfl rfl (by kernel_rfl) Tryz.func5 closed
    (of_decide_eq_true (by kernel_rfl)) (by unfold Func.isWrapper; first | (rw [if_pos (by decide +kernel)]; kernel_rfl) | (rw [if_neg (by decide +kernel)]; exact ⟨rfl, rfl⟩))
    (fun os started H enc _ => lifted os started H enc)
end endAgain
theorem endAgain_holds : Rows.EndAgainSaid := endAgain.over
end Go.Proofs.YtpjlnpnadkbakaaGreat
