/-
  Whatever the input, the law EndChecks of the landed program answers true: whatever numbers a configuration has, Check and New of package end answer what the document says: a configuration whose numbers are within their bounds may be, others are ErrArg; a side other than 0 and 1 is ErrArg; an end there is only where it may be
-/
import Derived.Test.YtpjlnpnadkbakaaGreatQBXEc
import Derived.Test.YtpjlnpnadkbakaaGreatQBZEndChecksL
import Derived.Test.YtpjlnpnadkbakaaGreatQBZEndChecksC
import Derived.OpenShut
import Derived.ShutString
import Derived.ChangeOld
namespace Go.Proofs.YtpjlnpnadkbakaaGreat
set_option maxRecDepth 10000
open Go.ChangeShapes Go.WideShapes Go.ChangeAt Go.RowKit
open Go.ChangeMaps (open_string shut_string)
namespace endChecks
theorem over : Rows.endChecksRow.holds Tryz.pinned (OpenSpec.ofChange Rows.endChecksSpec) :=
  OpenClaim.holds_of_wide 10 Tryz.f10 rfl rfl rfl rfl rfl rfl rfl ⟨rfl, rfl, rfl, rfl, rfl⟩ rfl rfl rfl rfl rfl (by kernel_rfl) Tryz.func10 closed
    (of_decide_eq_true (by kernel_rfl)) (by unfold Func.isWrapper; first | (rw [if_pos (by decide +kernel)]; kernel_rfl) | (rw [if_neg (by decide +kernel)]; exact ⟨rfl, rfl⟩))
    (fun os started H enc _ => lifted os started H enc)
end endChecks
theorem endChecks_holds : Rows.EndChecksSaid := endChecks.over
end Go.Proofs.YtpjlnpnadkbakaaGreat
