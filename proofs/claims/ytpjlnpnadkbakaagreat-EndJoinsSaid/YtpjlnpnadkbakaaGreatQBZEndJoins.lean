/-
  Whatever the input, the law EndJoins of the landed program answers true: a path that comes up is asked for, again and again, till it is joined; the other end answers each time; down, nothing goes over it
-/
import Derived.Test.YtpjlnpnadkbakaaGreatQBZEndJoinsL
import Derived.Test.YtpjlnpnadkbakaaGreatQBZEndJoinsC
import Derived.OpenShut
import Derived.ShutString
import Derived.ChangeOld
namespace Go.Proofs.YtpjlnpnadkbakaaGreat
set_option maxRecDepth 10000
open Go.ChangeShapes Go.WideShapes Go.ChangeAt Go.RowKit
open Go.ChangeMaps (open_string shut_string)
namespace endJoins
theorem over : Rows.endJoinsRow.holds Tryz.pinned (OpenSpec.ofChange Rows.endJoinsSpec) :=
  OpenClaim.holds_of_wide 7 Tryz.f7 rfl rfl rfl rfl rfl rfl rfl ⟨rfl, rfl, rfl, rfl, rfl⟩ rfl rfl rfl rfl rfl (by kernel_rfl) Tryz.func7 closed
    (of_decide_eq_true (by kernel_rfl)) (by unfold Func.isWrapper; first | (rw [if_pos (by decide +kernel)]; kernel_rfl) | (rw [if_neg (by decide +kernel)]; exact ⟨rfl, rfl⟩))
    (fun os started H enc _ => lifted os started H enc)
end endJoins
theorem endJoins_holds : Rows.EndJoinsSaid := endJoins.over
end Go.Proofs.YtpjlnpnadkbakaaGreat
