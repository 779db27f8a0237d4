/-
  Worlds that have only drawn; what a call on a small object of the call's own turns.
-/
import Derived.Test.YtlkoenlimdfifaaOwn
import Derived.Deep.QuietTactic
namespace Go.Proofs.Ytlkoenlimdfifaa
open Go.RowKit

theorem quiet_eq {P : Program} {f : Nat} {args : Array Value} {w : World} {n : Nat} {v : Value} (h : Calls P f args (w.drewN n) fun e w' => e = .returned v ∧ w.drewN n = w') :
    Calls P f args (w.drewN n) fun e w'' => e = .returned v ∧ ∃ m, w'' = w.drewN m := Calls.quiet_of_same (h.mono fun _ _ ⟨h1, h2⟩ => ⟨h1, h2.symm⟩)
theorem grown_drewN {w w' : World} {k : Nat} {r : Option Nat} (h : (w.drewN k).grownBy w' r) : w.grownBy w' r := ⟨h.os, h.tape, h.output, h.size, h.block⟩
theorem grown_drew {w w' : World} {r : Option Nat} (h : w.grownBy w' r) : w.grownBy w'.drew r := ⟨h.os, h.tape, h.output, h.size, h.block⟩
/-- What a call on a small object of the call's own turns. -/
theorem own_grown {w w1 w2 : World} {b : Nat} (hb : Below w.heap.size w w1) (hg : w1.grownBy w2 (some b)) (h : w.heap.size ≤ b) : Below w.heap.size w w2 := hb.grown hg hb.size (by intro g hg; simp at hg; omega)
end Go.Proofs.Ytlkoenlimdfifaa
