/-
  Whatever the input, the law EndSide of the landed program answers true: side 1 asks for no path, and answers who asks; what it has to say waits till a path is joined
-/
import Derived.Test.YtpjlnpnadkbakaaGreatQBZEndSideL
import Derived.Test.YtpjlnpnadkbakaaGreatQBZEndSideC
import Derived.OpenShut
import Derived.ShutString
import Derived.ChangeOld
namespace Go.Proofs.YtpjlnpnadkbakaaGreat
set_option maxRecDepth 10000
open Go.ChangeShapes Go.WideShapes Go.ChangeAt Go.RowKit
open Go.ChangeMaps (open_string shut_string)
namespace endSide
theorem over : Rows.endSideRow.holds Tryz.pinned (OpenSpec.ofChange Rows.endSideSpec) :=
  OpenClaim.holds_of_wide 15 Tryz.f15 rfl rfl rfl rfl rfl rfl rfl ⟨rfl, rfl, rfl, rfl, rfl⟩ rfl rfl rfl rfl rfl (by kernel_rfl) Tryz.func15 closed
    (of_decide_eq_true (by kernel_rfl)) (by unfold Func.isWrapper; first | (rw [if_pos (by decide +kernel)]; kernel_rfl) | (rw [if_neg (by decide +kernel)]; exact ⟨rfl, rfl⟩))
    (fun os started H enc _ => lifted os started H enc)
end endSide
theorem endSide_holds : Rows.EndSideSaid := endSide.over
end Go.Proofs.YtpjlnpnadkbakaaGreat
