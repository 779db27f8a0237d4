/-
  Two footprints that share nothing ('Sep'). No program.
-/
import Derived.Test.YtlkoenlimdfifaaTrn
namespace Go.Proofs.Ytlkoenlimdfifaa
open Go.RowKit

/-- Where F lies, G doesn't. -/
def Sep (F G : Nat → Prop) : Prop := ∀ k, F k → ¬ G k
section
variable {w w' : World} {F F' G : Nat → Prop}
theorem Sep.symm (h : Sep F G) : Sep G F := fun k hg hf => h k hf hg
/-- G has moved on; F lies below. -/
theorem Sep.step {G' : Nat → Prop} (h : Sep F G) (hsc : SC w w' G G') (hlt : ∀ k, F k → k < w.heap.size) : Sep F G' := fun k hf => hsc.out (hlt k hf) (h k hf)
end
end Go.Proofs.Ytlkoenlimdfifaa
