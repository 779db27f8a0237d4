/-
  What Copy and Cut make of bytes: contracts over the program.
-/
import Derived.Test.YtpjlnpnadkbakaaGreatRows
import Derived.Test.YtpjlnpnadkbakaaGreatQBMem
import Derived.WalkLawsBesides
import Derived.Handy
namespace Go.Proofs.YtpjlnpnadkbakaaGreat
set_option maxRecDepth 10000
open Go.RowKit
theorem info_byte : (Tryz.prog.info? 5).map (fun i => (i.zero, i.size, i.bytes)) = some (some (.int .u8 0), 1, 1) := by kernel_rfl
end Go.Proofs.YtpjlnpnadkbakaaGreat
