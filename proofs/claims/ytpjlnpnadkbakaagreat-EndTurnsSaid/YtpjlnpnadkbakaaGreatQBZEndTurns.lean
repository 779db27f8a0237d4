/-
  Whatever the input, the law EndTurns of the landed program answers true: by turns, over two paths, pieces go out one here, one there; to all of them, each piece goes over each
-/
import Derived.Test.YtpjlnpnadkbakaaGreatQBZEndTurnsL
import Derived.Test.YtpjlnpnadkbakaaGreatQBZEndTurnsC
import Derived.OpenShut
import Derived.ShutString
import Derived.ChangeOld
namespace Go.Proofs.YtpjlnpnadkbakaaGreat
set_option maxRecDepth 10000
open Go.ChangeShapes Go.WideShapes Go.ChangeAt Go.RowKit
open Go.ChangeMaps (open_string shut_string)
namespace endTurns
theorem over : Rows.endTurnsRow.holds Tryz.pinned (OpenSpec.ofChange Rows.endTurnsSpec) :=
  OpenClaim.holds_of_wide 13 Tryz.f13 rfl rfl rfl rfl rfl rfl rfl ⟨rfl, rfl, rfl, rfl, rfl⟩ rfl rfl rfl rfl rfl (by kernel_rfl) Tryz.func13 closed
    (of_decide_eq_true (by kernel_rfl)) (by unfold Func.isWrapper; first | (rw [if_pos (by decide +kernel)]; kernel_rfl) | (rw [if_neg (by decide +kernel)]; exact ⟨rfl, rfl⟩))
    (fun os started H enc _ => lifted os started H enc)
end endTurns
theorem endTurns_holds : Rows.EndTurnsSaid := endTurns.over
end Go.Proofs.YtpjlnpnadkbakaaGreat
