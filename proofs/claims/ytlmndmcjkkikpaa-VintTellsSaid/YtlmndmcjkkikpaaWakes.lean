/-
  The document's example, 300, as every statement of chapter 1 asks it.
-/
import Derived.Test.YtlmndmcjkkikpaaVintPut
import Derived.Test.YtlmndmcjkkikpaaKeep
namespace Go.Proofs.Ytlmndmcjkkikpaa
open Go.RowKit

theorem below_drewN' {B : Nat} {a w : World} (h : Below B a w) (n : Nat) : Below B a (w.drewN n) := ⟨h.os, h.tape, h.output, h.size, h.block⟩

set_option maxHeartbeats 400000 in
theorem wakes_any (w : World) :
    Calls Try.prog 10 #[] w fun e w' => e = .returned (.bool true) ∧ Below w.heap.size w w' := by
  have h1 : (putL 300).length = 2 := by decide
  have h2 : Rd .u8 ((w.alloc (.cells (bts (putL 300)) 5)).alloc (.cells #[.int .u8 65, .int .u8 44] 5)).drew (some ⟨w.heap.size, 0, none⟩) [65, 44] :=
    ((Rd.new w (putL 300) _).alloc _).drew
  have h3 : Rd .u8 ((w.alloc (.cells (bts (putL 300)) 5)).alloc (.cells #[.int .u8 65, .int .u8 44] 5)).drew (some ⟨w.heap.size + 1, 0, none⟩) [65, 44] := by
    have := Rd.new (w.alloc (.cells (bts (putL 300)) 5)) [65, 44] 5
    simpa [bts] using this.drew
  have H1 := Lib.hid h1
  have H2 := Lib.hid h2
  have H3 := Lib.hid h3
  clear h1 h2 h3
  go_enter Try.func10, Try.ntmps10
  go_wp2_with fail
  refine (put_any 300 _ (by omega) (by omega)).mono ?_
  rintro e w' ⟨rfl, rfl⟩
  go_wp2_with fail
  rw [H1.out]
  refine (same_true [65, 44] rfl rfl H2.out H3.out (by simp [maxLen])).mono ?_
  rintro e w' ⟨rfl, k, rfl⟩
  go_wp2_with fail
  go_ret
  refine ⟨rfl, ?_⟩
  exact below_drewN' ((((Below.refl _ _).alloc (Nat.le_refl _) _).alloc (by simp) _)) _
end Go.Proofs.Ytlmndmcjkkikpaa
