/-
  Whatever the input, the law EndOwn of the landed program answers true: what is handed in, and told, is the end's own: bytes, packets, events, state
-/
import Derived.Test.YtpjlnpnadkbakaaGreatQBXOw
import Derived.Test.YtpjlnpnadkbakaaGreatQBZEndOwnL
import Derived.Test.YtpjlnpnadkbakaaGreatQBZEndOwnC
import Derived.OpenShut
import Derived.ShutString
import Derived.ChangeOld
namespace Go.Proofs.YtpjlnpnadkbakaaGreat
set_option maxRecDepth 10000
open Go.ChangeShapes Go.WideShapes Go.ChangeAt Go.RowKit
open Go.ChangeMaps (open_string shut_string)
namespace endOwn
theorem over : Rows.endOwnRow.holds Tryz.pinned (OpenSpec.ofChange Rows.endOwnSpec) :=
  OpenClaim.holds_of_wide 14 Tryz.f14 rfl rfl rfl rfl rfl rfl rfl ⟨rfl, rfl, rfl, rfl, rfl⟩ rfl rfl rfl rfl rfl (by kernel_rfl) Tryz.func14 closed
    (of_decide_eq_true (by kernel_rfl)) (by unfold Func.isWrapper; first | (rw [if_pos (by decide +kernel)]; kernel_rfl) | (rw [if_neg (by decide +kernel)]; exact ⟨rfl, rfl⟩))
    (fun os started H enc _ => lifted os started H enc)
end endOwn
theorem endOwn_holds : Rows.EndOwnSaid := endOwn.over
end Go.Proofs.YtpjlnpnadkbakaaGreat
