/-
  Whatever the input, the law EndFalls of the landed program answers true: a path that goes down gives up what was out on it: it goes over another one, at once
-/
import Derived.Test.YtpjlnpnadkbakaaGreatQFZEndFallsL
import Derived.Test.YtpjlnpnadkbakaaGreatQFZEndFallsC
import Derived.OpenShut
import Derived.ShutString
import Derived.ChangeOld
namespace Go.Proofs.YtpjlnpnadkbakaaGreat
set_option maxRecDepth 10000
open Go.ChangeShapes Go.WideShapes Go.ChangeAt Go.RowKit
open Go.ChangeMaps (open_string shut_string)
namespace endFalls
theorem over : Rows.endFallsRow.holds Tryz.pinned (OpenSpec.ofChange Rows.endFallsSpec) :=
  OpenClaim.holds_of_wide 8 Tryz.f8 rfl rfl rfl rfl rfl rfl rfl ⟨rfl, rfl, rfl, rfl, rfl⟩ rfl rfl rfl rfl rfl (by kernel_rfl) Tryz.func8 closed
    (of_decide_eq_true (by kernel_rfl)) (by unfold Func.isWrapper; first | (rw [if_pos (by decide +kernel)]; kernel_rfl) | (rw [if_neg (by decide +kernel)]; exact ⟨rfl, rfl⟩))
    (fun os started H enc _ => lifted os started H enc)
end endFalls
theorem endFalls_holds : Rows.EndFallsSaid := endFalls.over
end Go.Proofs.YtpjlnpnadkbakaaGreat
