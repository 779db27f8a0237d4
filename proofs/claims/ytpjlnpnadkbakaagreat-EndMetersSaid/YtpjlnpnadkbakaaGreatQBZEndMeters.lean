/-
  Whatever the input, the law EndMeters of the landed program answers true: what the counters tell, one by one
-/
import Derived.Test.YtpjlnpnadkbakaaGreatQBZEndMetersL
import Derived.Test.YtpjlnpnadkbakaaGreatQBZEndMetersC
import Derived.OpenShut
import Derived.ShutString
import Derived.ChangeOld
namespace Go.Proofs.YtpjlnpnadkbakaaGreat
set_option maxRecDepth 10000
open Go.ChangeShapes Go.WideShapes Go.ChangeAt Go.RowKit
open Go.ChangeMaps (open_string shut_string)
namespace endMeters
theorem over : Rows.endMetersRow.holds Tryz.pinned (OpenSpec.ofChange Rows.endMetersSpec) :=
  OpenClaim.holds_of_wide 9 Tryz.f9 rfl rfl rfl rfl rfl rfl rfl ⟨rfl, rfl, rfl, rfl, rfl⟩ rfl rfl rfl rfl rfl (by kernel_rfl) Tryz.func9 closed
    (of_decide_eq_true (by kernel_rfl)) (by unfold Func.isWrapper; first | (rw [if_pos (by decide +kernel)]; kernel_rfl) | (rw [if_neg (by decide +kernel)]; exact ⟨rfl, rfl⟩))
    (fun os started H enc _ => lifted os started H enc)
end endMeters
theorem endMeters_holds : Rows.EndMetersSaid := endMeters.over
end Go.Proofs.YtpjlnpnadkbakaaGreat
