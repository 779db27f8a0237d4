/-
  The walk of EndFalls.
-/
import Derived.Test.YtpjlnpnadkbakaaGreatQFPrEvK
import Derived.Test.YtpjlnpnadkbakaaGreatQFZEndFallsW0
import Derived.Test.YtpjlnpnadkbakaaGreatQFZEndFallsW1
import Derived.Test.YtpjlnpnadkbakaaGreatQFZEndFallsW2
import Derived.Test.YtpjlnpnadkbakaaGreatQFZEndFallsW3
import Derived.Deep.CutBlock
import Derived.Deep.DeepCutAuto
import Derived.Lib.SlBytesConst
namespace Go.Proofs.YtpjlnpnadkbakaaGreat
set_option maxRecDepth 10000
open Go.RowKit
theorem endFalls_walk (n : Int) (W : World) : Calls Tryz.prog 8 #[.int .i64 n] W fun e W' => e = .returned (.bool true) ∧ Below W.heap.size W W' := by
  have h : n % 11 = 0 ∨ n % 11 = 1 ∨ n % 11 = 2 ∨ n % 11 = 3 ∨ n % 11 = 4 ∨ n % 11 = 5 ∨ n % 11 = 6 ∨ n % 11 = 7 ∨ n % 11 = 8 ∨ n % 11 = 9 ∨ n % 11 = 10 := by omega
  rcases h with h | h | h | h | h | h | h | h | h | h | h
  · exact endFalls_0 n h W
  · exact endFalls_1 n h W
  · exact endFalls_2 n h W
  · exact endFalls_3 n h W
  · exact endFalls_4 n h W
  · exact endFalls_5 n h W
  · exact endFalls_6 n h W
  · exact endFalls_7 n h W
  · exact endFalls_8 n h W
  · exact endFalls_9 n h W
  · exact endFalls_10 n h W
end Go.Proofs.YtpjlnpnadkbakaaGreat
