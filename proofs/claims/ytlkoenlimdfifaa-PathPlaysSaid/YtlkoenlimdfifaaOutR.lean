/-
  The document's own Out: its type. Closed facts of the program.
-/
import Derived.Test.YtlkoenlimdfifaaRows
import Derived.Test.YtlkoenlimdfifaaQuad
namespace Go.Proofs.Ytlkoenlimdfifaa
open Go.RowKit

abbrev tOutR : TypeId := 59
theorem info_tOutR : (Try.prog.info? tOutR).map (fun i => (i.zero, i.size, i.bytes)) = some (some (.agg #[.int .i64 0, .int .i64 0, .int .i64 0, .int .i64 0]), 4, 32) := by kernel_rfl
theorem size_outR : (Try.prog.info? tOutR).map (·.size) = some 4 := by kernel_rfl
theorem sizeOutR (w : World) : (Go.sizeOf (Try.prog.elem 51)).run Try.prog w = .ok 4 w := by
  obtain ⟨i, hi, _, h2, _⟩ := info_parts info_tOutR
  show (Go.sizeOf tOutR).run Try.prog w = .ok 4 w
  simp [sizeOf, typeInfo, hi, h2]
end Go.Proofs.Ytlkoenlimdfifaa
