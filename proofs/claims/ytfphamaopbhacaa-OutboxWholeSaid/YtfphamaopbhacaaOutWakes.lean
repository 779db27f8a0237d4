/-
  The document's example of package outbox: contract over the program.
-/
import Derived.Test.YtfphamaopbhacaaOutbox2
import Derived.Lib.SlBytesConst
namespace Go.Proofs.Ytfphamaopbhacaa
open Go.RowKit

def exO : Ou := ⟨5, [97, 98, 99, 100, 101], false, 0⟩
def abc : List Int := [97, 98, 99, 100, 101, 102, 103]

set_option maxHeartbeats 1000000 in
theorem wakesO_any (w : World) : Calls Try.prog 15 #[] w fun e w' => e = .returned (.bool true) ∧ Below w.heap.size w w' := by
  have HN := Lib.hid (newout_any 5 w)
  have kc := fun (w : World) (C : Array Value) (n c : Nat) => Lib.run_convert_bytes_const (P := Try.prog) w 26 5 C n c Try.underlying26 Try.underlying5
  obtain ⟨b, hb⟩ : ∃ b, w.heap.size = b := ⟨_, rfl⟩
  rw [hb] at HN
  have HB := Lib.hid hb
  clear hb
  go_enter Try.func15, Try.ntmps15
  go_wp2_with fail
  refine HN.out.mono ?_
  rintro e w1 ⟨rfl, h1, b1, z1⟩
  have H1 := Lib.hid h1
  have B1 := Lib.hid b1
  clear h1 b1 z1 HN
  go_wp2_with fail
  refine (places_any H1.out).mono ?_
  rw [show (Ou.new 5).places = 0 from rfl]
  rintro e w' ⟨rfl, rfl⟩
  go_wp2_with fail
  have hr : Rd .u8 (w1.alloc (.cells (bts abc) 5 (7, 8))) (some ⟨w1.heap.size, 0, none⟩) abc := by
    refine .inr ⟨_, _, rfl, fun i hi => ?_⟩
    rw [Nat.zero_add, World.cell?_alloc_mark]
    simp [bts, hi]
  have hb2 : Below w1.heap.size w1 (w1.alloc (.cells (bts abc) 5 (7, 8))) := (Below.refl _ _).alloc (Nat.le_refl _) _
  refine (write_any (H1.out.later hb2) _ 7 7 abc rfl hr (Nat.le_refl _) (by omega) 5 (by simp [Ou.new, Ou.room]; decide)).mono ?_
  rintro e w2 ⟨v2, rfl, h2, s2⟩
  rw [show (Ou.new 5).more (abc.take 5) = exO from rfl] at h2
  have H2 := Lib.hid h2
  have B2 := Lib.hid (B1.out.trans ((hb2.mono (by have := H1.out.size; omega)).trans ((H1.out.later hb2).bel s2 (Nat.le_refl _))))
  clear h2 s2 hr hb2
  go_wp2_with fail
  refine (len_any H2.out).mono ?_
  rw [show ((exO.xs.length : Nat) : Int) = 5 from rfl]
  rintro e w' ⟨rfl, rfl⟩
  go_wp2_with fail
  refine (close_any H2.out).mono ?_
  rw [show exO.cl = false from rfl]
  rintro e w3 ⟨rfl, h3, g3⟩
  have H3 := Lib.hid h3
  have B3 := Lib.hid (B2.out.trans (H2.out.bel (sc_p g3) (Nat.le_refl _)))
  clear h3 g3
  go_wp2_with fail
  refine (places_any H3.out).mono ?_
  rw [show exO.shut.places = 6 from rfl]
  rintro e w' ⟨rfl, rfl⟩
  go_wp2_with fail
  go_ret
  exact ⟨rfl, by rw [HB.out]; exact B3.out⟩
end Go.Proofs.Ytfphamaopbhacaa
