/-
  EndFalls: what every input has in common, reckoned.
-/
import Derived.Test.YtpjlnpnadkbakaaGreatQFPrEvK
import Derived.Deep.CutBlock
import Derived.Deep.DeepCutAuto
import Derived.Lib.SlBytesConst
namespace Go.Proofs.YtpjlnpnadkbakaaGreat
set_option maxRecDepth 10000
open Go.RowKit
abbrev efS : ByteArray := { data := #[48, 49, 50, 51, 52, 53, 54, 55, 56, 57, 97, 98, 99, 100, 101, 102, 103, 104, 105, 106] }
noncomputable def ef1 : En := (upE plC).up 1
noncomputable def ef2 : En := ef1.taken
noncomputable def ef3 : En := ef2.write [48, 49, 50, 51, 52, 53, 54, 55, 56, 57, 97, 98, 99, 100, 101, 102, 103, 104, 105, 106]
noncomputable def ef4 : En := ef3.taken
noncomputable def ef5 : En := ef4.comeC ⟨2, 1, 0, 0, 0, [], false, 0, 0⟩
noncomputable def ef6 : En := ef5.taken
theorem efF : (upE plC).mayU 1 = true ∧ (ef1).out = [⟨1, 1, 0, 0, 0, [], false, 0, 0⟩] ∧ (ef2).takes [48, 49, 50, 51, 52, 53, 54, 55, 56, 57, 97, 98, 99, 100, 101, 102, 103, 104, 105, 106] = 20 ∧ (ef3).out = [⟨3, 0, 1, 0, 0, [48, 49, 50, 51, 52, 53, 54, 55, 56, 57], false, 0, 0⟩, ⟨3, 0, 2, 0, 10, [97, 98, 99, 100, 101, 102, 103, 104, 105, 106], false, 0, 0⟩] ∧ (ef4).mayC ⟨2, 1, 0, 0, 0, [], false, 0, 0⟩ = true ∧ (ef5).out = [] := by
  refine ⟨?_, ?_, ?_, ?_, ?_, ?_⟩ <;> kernel_rfl
end Go.Proofs.YtpjlnpnadkbakaaGreat
