/-
  The document's example, the sum of '123456789', as every statement of chapter 2 asks it. Contract over the program.
-/
import Derived.Test.YtbadehbhnenbjaaSumOf
import Derived.Lib.SlBytesConst
namespace Go.Proofs.Ytbadehbhnenbjaa
open Go.RowKit

def nine : List Int := [49, 50, 51, 52, 53, 54, 55, 56, 57]
theorem nine_sum : sumI nine = 3421780262 := by decide +kernel

theorem TabIs.later {w w' : World} {g B : Nat} (h : TabIs w g) (hb : Below B w w') (hg : g < B) : TabIs w' g := World.rowIs.of_block h (hb.block g hg)
theorem TabIs.lt {w : World} {g : Nat} (h : TabIs w g) : g < w.heap.size := World.rowIs.lt h

set_option maxHeartbeats 400000 in
theorem wakes_any (w : World) :
    Calls Try.prog 11 #[] w fun e w' => e = .returned (.bool true) ∧ Below w.heap.size w w' := by
  have hn := Lib.hid nine_sum
  have kc := fun (w : World) (C : Array Value) (n c : Nat) => Lib.run_convert_bytes_const (P := Try.prog) w 22 5 C n c Try.underlying22 Try.underlying5
  go_enter Try.func11, Try.ntmps11
  go_wp2_with fail
  refine (table_any w).mono ?_
  rintro e w' ⟨rfl, ht, hb, hz⟩
  have HT := Lib.hid ht
  have HB := Lib.hid hb
  have HZ := Lib.hid hz
  clear ht hb hz
  go_wp2_with fail
  have hr : Rd .u8 (w'.alloc (.cells (bts nine) 5 (9, 10))) (some ⟨w'.heap.size, 0, none⟩) nine := by
    refine .inr ⟨_, _, rfl, fun i hi => ?_⟩
    rw [Nat.zero_add, World.cell?_alloc_mark]
    simp [bts, hi]
  have ht : TabIs (w'.alloc (.cells (bts nine) 5 (9, 10))) w.heap.size := World.rowIs.alloc HT.out _
  refine (of_any _ _ 9 9 nine _ ht rfl hr (by decide) (by simp [maxLen])).mono ?_
  rintro e w2 ⟨rfl, rfl⟩
  rw [hn.out]
  go_wp2
  go_ret
  exact ⟨rfl, HB.out.alloc HB.out.size _⟩
end Go.Proofs.Ytbadehbhnenbjaa
