/-
  A literal of numbers, just laid: it is read, and it is the call's own.
-/
import Derived.Test.YtlkoenlimdfifaaOwn
namespace Go.Proofs.Ytlkoenlimdfifaa
open Go.RowKit

theorem rd_lit (q : IntKind) (w : World) (xs : List Int) (t : TypeId) (fr : Nat × Nat) : Rd q (w.alloc (.cells (cel q xs).toArray t fr)) (some ⟨w.heap.size, 0, none⟩) xs := by
  refine .inr ⟨_, _, rfl, fun i hi => ?_⟩
  rw [Nat.zero_add, World.cell?_alloc_mark]
  simp [cel, List.getD, hi]
theorem own_lit (q : IntKind) (w : World) (xs : List Int) (t : TypeId) (hl : xs.length ≤ maxLen) : Own q t (w.alloc (.cells (cel q xs).toArray t)) w.heap.size (.slice (some ⟨w.heap.size, 0, none⟩) xs.length xs.length) xs := by
  have := World.ownsRow_lit (base := w.heap.size) (e := t) (size := 1) w (cel q xs).toArray xs.length (Nat.le_refl _) hl (by simp [cel])
  simpa [Own, cel] using this
end Go.Proofs.Ytlkoenlimdfifaa
