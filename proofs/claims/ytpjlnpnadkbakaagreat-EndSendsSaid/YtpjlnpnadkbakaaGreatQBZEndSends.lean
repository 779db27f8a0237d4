/-
  Whatever the input, the law EndSends of the landed program answers true: what is written goes out in pieces, as many as may be out; each answer lets more of it go; the end goes with the last bytes
-/
import Derived.Test.YtpjlnpnadkbakaaGreatQBZEndSendsL
import Derived.Test.YtpjlnpnadkbakaaGreatQBZEndSendsC
import Derived.OpenShut
import Derived.ShutString
import Derived.ChangeOld
namespace Go.Proofs.YtpjlnpnadkbakaaGreat
set_option maxRecDepth 10000
open Go.ChangeShapes Go.WideShapes Go.ChangeAt Go.RowKit
open Go.ChangeMaps (open_string shut_string)
namespace endSends
theorem over : Rows.endSendsRow.holds Tryz.pinned (OpenSpec.ofChange Rows.endSendsSpec) :=
  OpenClaim.holds_of_wide 3 Tryz.f3 rfl rfl rfl rfl rfl rfl rfl ⟨rfl, rfl, rfl, rfl, rfl⟩ rfl rfl rfl rfl rfl (by kernel_rfl) Tryz.func3 closed
    (of_decide_eq_true (by kernel_rfl)) (by unfold Func.isWrapper; first | (rw [if_pos (by decide +kernel)]; kernel_rfl) | (rw [if_neg (by decide +kernel)]; exact ⟨rfl, rfl⟩))
    (fun os started H enc _ => lifted os started H enc)
end endSends
theorem endSends_holds : Rows.EndSendsSaid := endSends.over
end Go.Proofs.YtpjlnpnadkbakaaGreat
