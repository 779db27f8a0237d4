/-
  Whatever the input, the law EndStays of the landed program answers true: what does nothing is no event
-/
import Derived.Test.YtpjlnpnadkbakaaGreatQBXSt
import Derived.Test.YtpjlnpnadkbakaaGreatQBZEndStaysL
import Derived.Test.YtpjlnpnadkbakaaGreatQBZEndStaysC
import Derived.OpenShut
import Derived.ShutString
import Derived.ChangeOld
namespace Go.Proofs.YtpjlnpnadkbakaaGreat
set_option maxRecDepth 10000
open Go.ChangeShapes Go.WideShapes Go.ChangeAt Go.RowKit
open Go.ChangeMaps (open_string shut_string)
namespace endStays
theorem over : Rows.endStaysRow.holds Tryz.pinned (OpenSpec.ofChange Rows.endStaysSpec) :=
  OpenClaim.holds_of_wide 12 Tryz.f12 rfl rfl rfl rfl rfl rfl rfl ⟨rfl, rfl, rfl, rfl, rfl⟩ rfl rfl rfl rfl rfl (by kernel_rfl) Tryz.func12 closed
    (of_decide_eq_true (by kernel_rfl)) (by unfold Func.isWrapper; first | (rw [if_pos (by decide +kernel)]; kernel_rfl) | (rw [if_neg (by decide +kernel)]; exact ⟨rfl, rfl⟩))
    (fun os started H enc _ => lifted os started H enc)
end endStays
theorem endStays_holds : Rows.EndStaysSaid := endStays.over
end Go.Proofs.YtpjlnpnadkbakaaGreat
