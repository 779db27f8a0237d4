/-
  A last region whose operations' order is drawn, the world a letter through it. No program.
-/
import Derived.Handy
import Derived.StillTailTactics
namespace Go.Proofs.Ytlkoenlimdfifaa
open Go.RowKit

set_option maxRecDepth 10000 in
theorem still_tail {P : Program} {id : Nat} {Q : Exit → Act → World → Prop} {a : Act} {w : World} {l : List Oper} (n : Nat) (hm : P.follows .mixedOrders = true) (hB : Region.lexTailB .any l.toArray n = true)
    (h : ∀ W : World, W = w.drew → wpStill P l.toArray W (fun a' => wpList P l.toArray Q (l.drop n) a' W) (l.take n) a) : (Code.region id l.toArray true).wp P Q a w :=
  wp_region_still_tail n hm hB (h _ rfl)
end Go.Proofs.Ytlkoenlimdfifaa
