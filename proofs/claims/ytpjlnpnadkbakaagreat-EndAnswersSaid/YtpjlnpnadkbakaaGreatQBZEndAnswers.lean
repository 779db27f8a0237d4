/-
  Whatever the input, the law EndAnswers of the landed program answers true: each Data is answered, also what was there, also what has no room, with what is seen, and what may be sent
-/
import Derived.Test.YtpjlnpnadkbakaaGreatQBZEndAnswersL
import Derived.Test.YtpjlnpnadkbakaaGreatQBZEndAnswersC
import Derived.OpenShut
import Derived.ShutString
import Derived.ChangeOld
namespace Go.Proofs.YtpjlnpnadkbakaaGreat
set_option maxRecDepth 10000
open Go.ChangeShapes Go.WideShapes Go.ChangeAt Go.RowKit
open Go.ChangeMaps (open_string shut_string)
namespace endAnswers
theorem over : Rows.endAnswersRow.holds Tryz.pinned (OpenSpec.ofChange Rows.endAnswersSpec) :=
  OpenClaim.holds_of_wide 6 Tryz.f6 rfl rfl rfl rfl rfl rfl rfl ⟨rfl, rfl, rfl, rfl, rfl⟩ rfl rfl rfl rfl rfl (by kernel_rfl) Tryz.func6 closed
    (of_decide_eq_true (by kernel_rfl)) (by unfold Func.isWrapper; first | (rw [if_pos (by decide +kernel)]; kernel_rfl) | (rw [if_neg (by decide +kernel)]; exact ⟨rfl, rfl⟩))
    (fun os started H enc _ => lifted os started H enc)
end endAnswers
theorem endAnswers_holds : Rows.EndAnswersSaid := endAnswers.over
end Go.Proofs.YtpjlnpnadkbakaaGreat
