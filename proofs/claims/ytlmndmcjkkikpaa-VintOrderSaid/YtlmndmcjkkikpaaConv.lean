/-
  'string(b)' of bytes that are read.
-/
import Derived.Test.YtlmndmcjkkikpaaRows
import Derived.Test.YtlmndmcjkkikpaaMem
import Derived.Laws.BytesArg
namespace Go.Proofs.Ytlmndmcjkkikpaa
open Go.RowKit

theorem conv_rd {A : Option Addr} {n : Nat} (c : Nat) {xs : List Int} {w : World} (hn : xs.length = n) (hr : Rd .u8 w A xs) :
    (convert 24 9 (.slice A n c)).run Try.prog w = .ok (.string (strOfNums xs)) w := by
  rcases hr with rfl | ⟨b, off, rfl, h⟩
  · have h0 : n = 0 := by simpa using hn.symm
    subst h0
    cases A with
    | none => exact run_convert_bytes_nil w 24 5 Try.underlying24 Try.underlying5 0 c 9 Try.underlying9
    | some ad =>
      rw [run_convert_bytes_string w 24 9 5 _ 0 c Try.underlying24 Try.underlying5 Try.underlying9]
      have hl : (loadCells ad 0).run Try.prog w = .ok (([] : List Int).map (Value.int .u8)).toArray w := by
        have := run_loadCells_list (P := Try.prog) w ad [] (fun j v hj => by simp at hj)
        simpa using this
      rw [run_bytesToString w ad 0 c [] hl]
      rfl
  · exact run_convert_bytes_arg w 24 5 Try.underlying24 Try.underlying5 b off n c xs hn (fun i hi => h i (by omega)) 9 Try.underlying9
end Go.Proofs.Ytlmndmcjkkikpaa
