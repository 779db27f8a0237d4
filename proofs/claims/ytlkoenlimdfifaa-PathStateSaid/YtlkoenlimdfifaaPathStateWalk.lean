/-
  The walk of PathState.
-/
import Derived.Test.YtlkoenlimdfifaaPathMid
import Derived.Test.YtlkoenlimdfifaaPathMath2
import Derived.Test.YtlkoenlimdfifaaWithin
import Derived.Test.YtlkoenlimdfifaaSameInt
import Derived.Test.YtlkoenlimdfifaaLit
namespace Go.Proofs.Ytlkoenlimdfifaa
open Go.RowKit

set_option maxRecDepth 100000 in
set_option maxHeartbeats 4000000 in
theorem pathState_walk (a0 a1 : Int) (W : World) :
    Calls Try.prog 4 #[.int .i64 a0, .int .i64 a1] W fun e W' => e = .returned (.bool true) ∧ Below W.heap.size W W' := by
  have q0 := Int.emod_nonneg a0 (show (50 : Int) ≠ 0 by omega)
  have q1 := Int.emod_lt_of_pos a0 (show (0 : Int) < 50 by omega)
  have HW0 := Lib.hid (fun w => within_any a0 50 w (by omega) (by omega))
  obtain ⟨z, hz⟩ : ∃ z : Int, a0 % 50 = z := ⟨_, rfl⟩
  rw [hz] at HW0 q0 q1
  obtain ⟨T, hT⟩ : ∃ T, wrap64 (a1 + 3) = T := ⟨_, rfl⟩
  have HZ := Lib.hid (And.intro q0 q1)
  clear hz
  have HN := Lib.hid (fun w' hb => pv_new (W := W) (w := w') 1 50 50 10 4 3 1 hb (pa_new 3 4 (by omega) (by omega)))
  go_enter Try.func4, Try.ntmps4
  go_wp2_with fail
  refine (HW0.out _).mono ?_
  rintro e w0 ⟨rfl, rfl⟩
  clear HW0
  go_wp2_with fail
  refine (plain_any _).mono ?_
  rintro e w0 ⟨rfl, hb⟩
  have HB1 := Lib.hid hb
  clear hb
  go_wp2_with fail
  refine (HN.out _ HB1.out).mono ?_
  rintro e w0 ⟨p, rfl, hx⟩
  have HX0 := Lib.hid hx
  clear hx HN HB1
  go_wp2_with fail
  refine (HX0.out.state (L := [0, 0, 0, 0, 0, 3, 2, 0]) (m := 8) (rfl) rfl).mono ?_
  rintro e w1 ⟨A1, c1, rfl, ho, hx⟩
  have HO := Lib.hid ho
  have HX1 := Lib.hid (hx.later ((Below.refl _ _).alloc (Nat.le_refl _) (.cells (cel .i64 [0, 0, 0, 0, 0, 3, 2, 0]).toArray 3)))
  clear hx ho HX0
  go_wp2_with fail
  refine (sameI_true [0, 0, 0, 0, 0, 3, 2, 0] rfl rfl (HO.out.rd.alloc (.cells (cel .i64 [0, 0, 0, 0, 0, 3, 2, 0]).toArray 3)) (rd_lit .i64 w1 [0, 0, 0, 0, 0, 3, 2, 0] 3 (0, 0)) (by simp [maxLen])).mono ?_
  rintro e w2 ⟨rfl, k2, rfl⟩
  clear HO
  have HX2 := Lib.hid (HX1.out.later (below_drP _ k2))
  clear  HX1
  go_wp2_with fail
  refine (HX2.out.up (r := true) rfl rfl).mono ?_
  rintro e w3 ⟨rfl, hx⟩
  have HX3 := Lib.hid (hx)
  clear hx HX2
  go_wp2_with fail
  refine (HX3.out.join (r := true) rfl rfl).mono ?_
  rintro e w4 ⟨rfl, hx⟩
  have HX4 := Lib.hid (hx)
  clear hx HX3
  go_wp2_with fail
  refine (HX4.out.number (n := 0) rfl (by omega) rfl).mono ?_
  rintro e w5 ⟨rfl, hx⟩
  have HX5 := Lib.hid (hx)
  clear hx HX4
  go_wp2_with fail
  refine (HX5.out.number (n := 1) rfl (by omega) (P' := ⟨true, true, false, 2, ⟨3, false, 0, 0, 0⟩, ⟨4, 2, 4, 0⟩, []⟩) rfl).mono ?_
  rintro e w6 ⟨rfl, hx⟩
  have HX6 := Lib.hid (hx)
  clear hx HX5
  go_wp2_with fail
  refine (HX6.out.out_yes 1 a1 T z (fun j hj => absurd hj (by simp)) (by simp) (P' := ⟨true, true, false, 2, ⟨3, false, 0, 0, 0⟩, ⟨4, 2, 4, 0⟩, [⟨1, a1, T, z⟩]⟩) rfl).mono ?_
  rintro e w7 ⟨rfl, hx⟩
  have HX7 := Lib.hid (hx)
  clear hx HX6
  go_wp2_with fail
  refine (HX7.out.state (L := [1, 1, 0, 2, 0, 3, 2, 1, 1, a1, T, z]) (m := 12) (rfl) rfl).mono ?_
  rintro e w8 ⟨A8, c8, rfl, ho, hx⟩
  have HO := Lib.hid ho
  have HX8 := Lib.hid (hx.later ((Below.refl _ _).alloc (Nat.le_refl _) (.cells (cel .i64 [1, 1, 0, 2, 0, 3, 2, 1, 1, a1, T, z]).toArray 3)))
  clear hx ho HX7
  go_wp2_with fail
  refine (sameI_true [1, 1, 0, 2, 0, 3, 2, 1, 1, a1, T, z] rfl rfl (HO.out.rd.alloc (.cells (cel .i64 [1, 1, 0, 2, 0, 3, 2, 1, 1, a1, T, z]).toArray 3)) (rd_lit .i64 w8 [1, 1, 0, 2, 0, 3, 2, 1, 1, a1, T, z] 3 (0, 0)) (by simp [maxLen])).mono ?_
  rintro e w9 ⟨rfl, k9, rfl⟩
  clear HO
  have HX9 := Lib.hid (HX8.out.later (below_drP _ k9))
  clear  HX8
  go_wp2_with fail
  refine (HX9.out.acked 1 (z + 4) 0 ⟨by simp, rfl, fun j hj => by omega⟩ (by have := HZ.out; omega) (by have := HZ.out; show -1099511627776 ≤ z ∧ z ≤ 1099511627776; omega) (P' := ⟨true, true, false, 2, ⟨3, true, 4, 2, 0⟩, ⟨4, 3, 4, 0⟩, []⟩) (by unfold Pa.acked; rw [show z + 4 - ((([⟨1, a1, T, z⟩] : List Qd)).getD 0 qz).a = 4 by show z + 4 - z = 4; omega]; rfl)).mono ?_
  rintro e w10 ⟨rfl, hx⟩
  have HX10 := Lib.hid (hx)
  clear hx HX9
  go_wp2_with fail
  refine (HX10.out.state (L := [1, 1, 0, 2, 4, 12, 3, 0]) (m := 8) (rfl) rfl).mono ?_
  rintro e w11 ⟨A11, c11, rfl, ho, hx⟩
  have HO := Lib.hid ho
  have HX11 := Lib.hid (hx.later ((Below.refl _ _).alloc (Nat.le_refl _) (.cells (cel .i64 [1, 1, 0, 2, 4, 12, 3, 0]).toArray 3)))
  clear hx ho HX10
  go_wp2_with fail
  refine (sameI_true [1, 1, 0, 2, 4, 12, 3, 0] rfl rfl (HO.out.rd.alloc (.cells (cel .i64 [1, 1, 0, 2, 4, 12, 3, 0]).toArray 3)) (rd_lit .i64 w11 [1, 1, 0, 2, 4, 12, 3, 0] 3 (0, 0)) (by simp [maxLen])).mono ?_
  rintro e w12 ⟨rfl, k12, rfl⟩
  clear HO
  have HX12 := Lib.hid (HX11.out.later (below_drP _ k12))
  clear  HX11
  go_wp2_with fail
  refine (HX12.out.number (n := 2) rfl (by omega) (P' := ⟨true, true, false, 3, ⟨3, true, 4, 2, 0⟩, ⟨4, 3, 4, 0⟩, []⟩) rfl).mono ?_
  rintro e w13 ⟨rfl, hx⟩
  have HX13 := Lib.hid (hx)
  clear hx HX12
  go_wp2_with fail
  refine (HX13.out.out_yes 2 0 0 z (fun j hj => absurd hj (by simp)) (by simp) (P' := ⟨true, true, false, 3, ⟨3, true, 4, 2, 0⟩, ⟨4, 3, 4, 0⟩, [⟨2, 0, 0, z⟩]⟩) rfl).mono ?_
  rintro e w14 ⟨rfl, hx⟩
  have HX14 := Lib.hid (hx)
  clear hx HX13
  have hall := late_all (l := [⟨2, 0, 0, z⟩]) (d := z + 12 - 12) (fun q hq => by simp at hq; subst hq; show z ≤ z + 12 - 12; omega)
  have HALL := Lib.hid hall
  clear hall
  go_wp2_with fail
  refine (HX14.out.late (z + 12) (by have := HZ.out; omega) (L := [⟨2, 0, 0, z⟩]) (m := 1) HALL.out.1 rfl (P' := ⟨true, true, true, 3, ⟨3, true, 4, 2, 1⟩, ⟨4, 1, 1, 0⟩, []⟩) (lateN_some (L := [⟨2, 0, 0, z⟩]) HALL.out.1 (by simp) HALL.out.2)).mono ?_
  rintro e w15 ⟨A15, c15, rfl, ho, hx⟩
  have HX15 := Lib.hid (hx)
  clear hx ho HX14
  go_wp2_with fail
  refine (HX15.out.state (L := [1, 1, 1, 3, 4, 24, 1, 0]) (m := 8) (rfl) rfl).mono ?_
  rintro e w16 ⟨A16, c16, rfl, ho, hx⟩
  have HO := Lib.hid ho
  have HX16 := Lib.hid (hx.later ((Below.refl _ _).alloc (Nat.le_refl _) (.cells (cel .i64 [1, 1, 1, 3, 4, 24, 1, 0]).toArray 3)))
  clear hx ho HX15
  go_wp2_with fail
  refine (sameI_true [1, 1, 1, 3, 4, 24, 1, 0] rfl rfl (HO.out.rd.alloc (.cells (cel .i64 [1, 1, 1, 3, 4, 24, 1, 0]).toArray 3)) (rd_lit .i64 w16 [1, 1, 1, 3, 4, 24, 1, 0] 3 (0, 0)) (by simp [maxLen])).mono ?_
  rintro e w17 ⟨rfl, k17, rfl⟩
  clear HO
  have HX17 := Lib.hid (HX16.out.later (below_drP _ k17))
  clear  HX16
  go_wp2_with fail
  refine (wakes18_any _).mono ?_
  rintro e w99 ⟨rfl, hb⟩
  have HFIN := Lib.hid (HX17.out.later hb).bel
  clear hb HX17 HZ
  go_wp2
  go_ret
  exact ⟨rfl, HFIN.out⟩
end Go.Proofs.Ytlkoenlimdfifaa
