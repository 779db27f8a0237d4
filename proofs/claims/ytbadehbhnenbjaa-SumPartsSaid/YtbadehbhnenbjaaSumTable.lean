/-
  What Table makes: the 256 entries, in a block of its own. Contract over the program.
-/
import Derived.Test.YtbadehbhnenbjaaSumEntry
import Derived.Test.YtbadehbhnenbjaaOwn
import Derived.Laws.CopyOwn
import Derived.Deep.OwnRows
import Derived.Deep.QuietTactic
import Derived.BigQuiet
namespace Go.Proofs.Ytbadehbhnenbjaa
open Go.RowKit

theorem info_u32 : (Try.prog.info? 26).map (fun i => (i.zero, i.size, i.bytes)) = some (some (.int .u32 0), 1, 4) := by kernel_rfl

/-- Block g is the table. -/
def TabIs (w : World) (g : Nat) : Prop := w.rowIs g 26 256 (fun i => .int .u32 (tabN i : Nat))

/-- The cells ahead of the place j are the table's, those behind it 0. -/
def tabF (j t : Nat) : Value := .int .u32 (if t < j then (tabN t : Nat) else 0 : Nat)

set_option maxHeartbeats 400000 in
theorem table_any (w : World) :
    Calls Try.prog 7 #[] w fun e w' => e = .returned (.slice (some ⟨w.heap.size, 0, none⟩) 256 256) ∧ TabIs w' w.heap.size ∧ Below w.heap.size w w' ∧ w'.heap.size = w.heap.size + 1 := by
  obtain ⟨i0, hi0, hz0, hz1, hz2⟩ := info_parts info_u32
  have hmk : ∀ w, (Instr.makeSlice 24 (.int .i64 256) (.int .i64 256)).run Try.prog w = .ok (.slice (some ⟨w.heap.size, 0, none⟩) 256 256) (w.alloc (.cells (madeCells #[.int .u32 0] 256) 26)) := fun w => by
    have := run_make (P := Try.prog) w 24 26 i0 (.int .u32 0) Try.underlying24 hi0 hz0 .i64 .i64 256 256 (by omega) (by omega) (by rw [hz2]; omega) (by omega)
    rw [hz1] at this
    exact this
  have hr0 := Lib.hid ((World.rowIs_made w (.int .u32 0) 256 26).congr (g := tabF 0) (fun i _ => by simp [tabF]))
  have hbl0 : Below w.heap.size w (w.alloc (.cells (madeCells #[.int .u32 0] 256) 26)) := (Below.refl _ _).alloc (Nat.le_refl _) _
  have HB := Lib.hid hbl0
  clear hi0 hz0 hz1 hz2 hbl0
  go_enter Try.func7, Try.ntmps7
  go_wp2
  clear hmk
  go_loopw [6] (fun i wr => ∃ j : Nat, j ≤ 256 ∧ i = .int .i64 (j : Nat) ∧ Hid (Below w.heap.size w wr ∧ wr.heap.size = w.heap.size + 1) ∧ Hid (wr.rowIs w.heap.size 26 256 (tabF j))) (fun i _ => 256 - (intOf i).toNat)
  case atStart => exact ⟨0, by omega, rfl, Lib.hid ⟨HB.out, by simp⟩, hr0⟩
  case round =>
    obtain ⟨j, hj, rfl, hb2, hr2⟩ := hrel
    by_cases hlt : j < 256
    · have f1 := hr2.out.frozen j
      have c1 := hr2.out.cell (i := j) hlt
      have hn1 : (j : Int) < 256 := by omega
      have hn2 : (0 : Int) ≤ (j : Int) := by omega
      go_wp2_with fail
      refine (entry_any j wr (by omega)).mono ?_
      rintro e w' ⟨rfl, rfl⟩
      go_wp2
      go_roundw
      case rel =>
        refine ⟨j + 1, by omega, by go_num, Lib.hid ⟨hb2.out.1.setCell (Nat.le_refl _) _, by simp [hb2.out.2]⟩, ?_⟩
        refine Lib.hid ((hr2.out.set j (.int .u32 (tabN j : Nat))).congr fun t ht => ?_)
        simp only [tabF]
        by_cases h1 : t = j
        · subst h1; rw [if_pos rfl, if_pos (by omega)]
        · rw [if_neg h1]
          by_cases h2 : t < j
          · rw [if_pos h2, if_pos (by omega)]
          · rw [if_neg h2, if_neg (by omega)]
      case measure => simp [intOf]; omega
    · have : j = 256 := by omega
      subst this
      go_wp2
      go_ret
      exact ⟨rfl, hr2.out.congr (fun i hi => by simp [tabF, hi]), hb2.out.1, hb2.out.2⟩
end Go.Proofs.Ytbadehbhnenbjaa
