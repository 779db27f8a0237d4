/-
  The small map of VintBack: what its making, its two stores and a look into it do.
-/
import Derived.Test.YtlmndmcjkkikpaaRows
import Derived.Test.YtlmndmcjkkikpaaMem
import Derived.Carry
import Derived.MapKept
import Derived.Deep.Draws
namespace Go.Proofs.Ytlmndmcjkkikpaa
open Go.RowKit

def e4 : MapEntry := { key := .int .i64 4, val := .int .i64 2, born := 0 }
def e8 : MapEntry := { key := .int .i64 8, val := .int .i64 3, born := 1 }
def M0 : Obj := .map #[] 0
def M1 : Obj := .map #[e4] 1
def M2 : Obj := .map #[e4, e8] 2
def f8 : MapEntry := { key := .int .i64 8, val := .int .i64 3, born := 0 }
def f4 : MapEntry := { key := .int .i64 4, val := .int .i64 2, born := 1 }
def M3 : Obj := .map #[f8] 1
def M4 : Obj := .map #[f8, f4] 2

theorem mk_map (w : World) : (Instr.makeMap 37 none).run Try.prog w = .ok (.map (some w.heap.size)) (w.alloc M0) := by
  simp [M0, run_makeMap]
theorem new_block (w : World) (o : Obj) : (w.alloc o).heap[w.heap.size]? = some o := by
  show (w.heap.push o)[w.heap.size]? = _
  simp
theorem set_block (w : World) (o o' : Obj) : ({ w.alloc o with heap := (w.alloc o).heap.setIfInBounds w.heap.size o' } : World) = w.alloc o' := by
  show ({ w with heap := (w.heap.push o).setIfInBounds w.heap.size o' } : World) = { w with heap := w.heap.push o' }
  congr 1
  apply Array.ext_getElem?
  intro i
  simp only [Array.getElem?_setIfInBounds, Array.getElem?_push, Array.size_push]
  by_cases h : w.heap.size = i
  · subst h; simp
  · rw [if_neg h, if_neg (fun e => h e.symm), if_neg (fun e => h e.symm)]

theorem ins4 (w : World) : (Instr.mapUpdate 37 (.map (some w.heap.size)) (.int .i64 4) (.int .i64 2)).run Try.prog (w.alloc M0) = .ok () (w.alloc M1) := by
  simp [Instr.mapUpdate, MapKept.run_getObj_map (new_block w M0), MapKept.run_checkKey (P := Try.prog) Try.underlying3 (k := .int .i64 4) (by trivial), MapKept.run_findKey (P := Try.prog) Try.underlying3 (k := .int .i64 4) (l := []) (a := none) rfl, MapKept.run_setObj_map _ (new_block w M0)]
  exact set_block w M0 M1
theorem ins8 (w : World) : (Instr.mapUpdate 37 (.map (some w.heap.size)) (.int .i64 8) (.int .i64 3)).run Try.prog (w.alloc M1) = .ok () (w.alloc M2) := by
  simp [Instr.mapUpdate, MapKept.run_getObj_map (new_block w M1), MapKept.run_checkKey (P := Try.prog) Try.underlying3 (k := .int .i64 8) (by trivial), MapKept.run_findKey (P := Try.prog) Try.underlying3 (k := .int .i64 8) (l := [e4]) (a := none) rfl, MapKept.run_setObj_map _ (new_block w M1)]
  exact set_block w M1 M2
theorem look4 (w : World) : (Instr.lookup 37 (.map (some w.heap.size)) (.int .i64 4) false).run Try.prog (w.alloc M2) = .ok (.int .i64 2) (w.alloc M2) := by
  simp [Instr.lookup, MapKept.run_getObj_map (new_block w M2), MapKept.run_checkKey (P := Try.prog) Try.underlying3 (k := .int .i64 4) (by trivial), MapKept.run_findKey (P := Try.prog) Try.underlying3 (k := .int .i64 4) (l := [e4, e8]) (a := some (0, .int .i64 2)) rfl]
theorem look8 (w : World) : (Instr.lookup 37 (.map (some w.heap.size)) (.int .i64 8) false).run Try.prog (w.alloc M2) = .ok (.int .i64 3) (w.alloc M2) := by
  simp [Instr.lookup, MapKept.run_getObj_map (new_block w M2), MapKept.run_checkKey (P := Try.prog) Try.underlying3 (k := .int .i64 8) (by trivial), MapKept.run_findKey (P := Try.prog) Try.underlying3 (k := .int .i64 8) (l := [e4, e8]) (a := some (1, .int .i64 3)) rfl]
theorem ins8' (w : World) : (Instr.mapUpdate 37 (.map (some w.heap.size)) (.int .i64 8) (.int .i64 3)).run Try.prog (w.alloc M0) = .ok () (w.alloc M3) := by
  simp [Instr.mapUpdate, MapKept.run_getObj_map (new_block w M0), MapKept.run_checkKey (P := Try.prog) Try.underlying3 (k := .int .i64 8) (by trivial), MapKept.run_findKey (P := Try.prog) Try.underlying3 (k := .int .i64 8) (l := []) (a := none) rfl, MapKept.run_setObj_map _ (new_block w M0)]
  exact set_block w M0 M3
theorem ins4' (w : World) : (Instr.mapUpdate 37 (.map (some w.heap.size)) (.int .i64 4) (.int .i64 2)).run Try.prog (w.alloc M3) = .ok () (w.alloc M4) := by
  simp [Instr.mapUpdate, MapKept.run_getObj_map (new_block w M3), MapKept.run_checkKey (P := Try.prog) Try.underlying3 (k := .int .i64 4) (by trivial), MapKept.run_findKey (P := Try.prog) Try.underlying3 (k := .int .i64 4) (l := [f8]) (a := none) rfl, MapKept.run_setObj_map _ (new_block w M3)]
  exact set_block w M3 M4
theorem look4' (w : World) : (Instr.lookup 37 (.map (some w.heap.size)) (.int .i64 4) false).run Try.prog (w.alloc M4) = .ok (.int .i64 2) (w.alloc M4) := by
  simp [Instr.lookup, MapKept.run_getObj_map (new_block w M4), MapKept.run_checkKey (P := Try.prog) Try.underlying3 (k := .int .i64 4) (by trivial), MapKept.run_findKey (P := Try.prog) Try.underlying3 (k := .int .i64 4) (l := [f8, f4]) (a := some (1, .int .i64 2)) rfl]
theorem look8' (w : World) : (Instr.lookup 37 (.map (some w.heap.size)) (.int .i64 8) false).run Try.prog (w.alloc M4) = .ok (.int .i64 3) (w.alloc M4) := by
  simp [Instr.lookup, MapKept.run_getObj_map (new_block w M4), MapKept.run_checkKey (P := Try.prog) Try.underlying3 (k := .int .i64 8) (by trivial), MapKept.run_findKey (P := Try.prog) Try.underlying3 (k := .int .i64 8) (l := [f8, f4]) (a := some (0, .int .i64 3)) rfl]
end Go.Proofs.Ytlmndmcjkkikpaa
