/-
  The walk of PathWays.
-/
import Derived.Test.YtlkoenlimdfifaaPathMid
import Derived.Test.YtlkoenlimdfifaaPathMath2
import Derived.Test.YtlkoenlimdfifaaWithin
namespace Go.Proofs.Ytlkoenlimdfifaa
open Go.RowKit

set_option maxRecDepth 100000 in
set_option maxHeartbeats 4000000 in
theorem pathWays_walk (a0 a1 : Int) (W : World) :
    Calls Try.prog 3 #[.int .i64 a0, .int .i64 a1] W fun e W' => e = .returned (.bool true) ∧ Below W.heap.size W W' := by
  have q0 := Int.emod_nonneg a1 (show (10 : Int) ≠ 0 by omega)
  have q1 := Int.emod_lt_of_pos a1 (show (0 : Int) < 10 by omega)
  have HW1 := Lib.hid (fun w => within_any a1 10 w (by omega) (by omega))
  obtain ⟨z1, hz1⟩ : ∃ z : Int, a1 % 10 = z := ⟨_, rfl⟩
  rw [hz1] at HW1 q0 q1
  obtain ⟨M, hM⟩ : ∃ M : Int, 2 + z1 = M := ⟨_, rfl⟩
  have HWM := Lib.hid (show wrap64 (2 + z1) = M from wrap_q hM (by omega) (by omega))
  have HM := Lib.hid (show 2 ≤ M ∧ M ≤ 11 by omega)
  clear hz1 q0 q1 hM
  have p0 := Int.emod_nonneg a0 (show (2 : Int) ≠ 0 by omega)
  have p1 := Int.emod_lt_of_pos a0 (show (0 : Int) < 2 by omega)
  have HW0 := Lib.hid (fun w => within_any a0 2 w (by omega) (by omega))
  obtain ⟨n, hn⟩ : ∃ n : Nat, a0 % 2 = (n : Int) := ⟨(a0 % 2).toNat, by omega⟩
  rw [hn] at HW0 p0 p1
  have HNB := Lib.hid (show n = 0 ∨ n = 1 by omega)
  clear hn p0 p1
  have HN := Lib.hid (fun w' hb => pv_new (W := W) (w := w') 1 50 50 10 M 3 1 hb (pa_new 3 M (by omega) (by have := HM.out; omega)))
  go_enter Try.func3, Try.ntmps3
  go_wp2_with fail
  refine (plain_any _).mono ?_
  rintro e w0 ⟨rfl, hb⟩
  have HB1 := Lib.hid (hb.alloc hb.size (.cells #[.int .i64 1, .int .i64 50, .int .i64 50, .int .i64 10, .int .i64 M, .int .i64 3, .int .i64 1] tCfg))
  clear hb
  go_wp2_with fail
  refine (HW1.out _).mono ?_
  rintro e w1 ⟨rfl, rfl⟩
  have hwm := HWM.out
  clear HW1
  go_wp2_with fail
  refine (HN.out _ HB1.out).mono ?_
  rintro e w0 ⟨p, rfl, hx⟩
  have HX0 := Lib.hid hx
  clear hx HN HB1 hwm
  go_wp2_with fail
  refine (HX0.out.isup (r := false) rfl).mono ?_
  rintro e w1 ⟨rfl, hx⟩
  have HX1 := Lib.hid (hx)
  clear hx HX0
  go_wp2_with fail
  refine (HX1.out.joined (r := false) rfl).mono ?_
  rintro e w2 ⟨rfl, hx⟩
  have HX2 := Lib.hid (hx)
  clear hx HX1
  go_wp2_with fail
  refine (HX2.out.down (L := []) (m := 0) rfl rfl (P' := ⟨false, false, false, 0, ⟨3, false, 0, 0, 0⟩, ⟨M, 2, M, 0⟩, []⟩) rfl).mono ?_
  rintro e w3 ⟨A3, c3, rfl, ho, hx⟩
  have HX3 := Lib.hid (hx)
  clear hx ho HX2
  go_wp2_with fail
  refine (HX3.out.join (r := true) rfl rfl).mono ?_
  rintro e w4 ⟨rfl, hx⟩
  have HX4 := Lib.hid (hx)
  clear hx HX3
  go_wp2_with fail
  refine (HX4.out.usable (r := false) rfl).mono ?_
  rintro e w5 ⟨rfl, hx⟩
  have HX5 := Lib.hid (hx)
  clear hx HX4
  go_wp2_with fail
  refine (HX5.out.up (r := true) rfl rfl).mono ?_
  rintro e w6 ⟨rfl, hx⟩
  have HX6 := Lib.hid (hx)
  clear hx HX5
  go_wp2_with fail
  refine (HX6.out.usable (r := true) rfl).mono ?_
  rintro e w7 ⟨rfl, hx⟩
  have HX7 := Lib.hid (hx)
  clear hx HX6
  go_wp2_with fail
  refine (HX7.out.len (r := 0) rfl).mono ?_
  rintro e w8 ⟨rfl, hx⟩
  have HX8 := Lib.hid (hx)
  clear hx HX7
  go_wp2_with fail
  refine (HX8.out.sent (r := 0) rfl).mono ?_
  rintro e w9 ⟨rfl, hx⟩
  have HX9 := Lib.hid (hx)
  clear hx HX8
  go_wp2_with fail
  refine (HX9.out.mean (r := 0) rfl).mono ?_
  rintro e w10 ⟨rfl, hx⟩
  have HX10 := Lib.hid (hx)
  clear hx HX9
  go_wp2_with fail
  refine (HX10.out.behind (r := false) rfl).mono ?_
  rintro e w11 ⟨rfl, hx⟩
  have HX11 := Lib.hid (hx)
  clear hx HX10
  go_wp2_with fail
  go_loopw [7] (fun iv wr => ∃ i : Nat, i ≤ 2 ∧ iv = .int .i64 i ∧ Hid (PV W wr p ⟨true, true, false, (i : Int), ⟨3, false, 0, 0, 0⟩, ⟨M, 2, M, 0⟩, outsW 4 i⟩)) (fun iv _ => 2 - (intOf iv).toNat)
  case atStart => exact ⟨0, by omega, rfl, HX11⟩
  case round =>
    clear HX11
    obtain ⟨i, hi, rfl, hx⟩ := hrel
    by_cases hin : i < 2
    · have HI := Lib.hid hin
      have i1 : (i : Int) < 2 := by omega
      have i2 : (0 : Int) ≤ (i : Int) := by omega
      have HIW := Lib.hid (show wrap64 ((i : Int) + 1) = ((i + 1 : Nat) : Int) from wrap_q (by omega) (by omega) (by omega))
      have HX11 := hx
      clear hx hi hin
      go_wp2_with fail
      refine (HX11.out.number (n := (i : Int)) rfl (by have := HI.out; omega) (P' := ⟨true, true, false, (i : Int) + 1, ⟨3, false, 0, 0, 0⟩, ⟨M, 2, M, 0⟩, outsW 4 i⟩) rfl).mono ?_
      rintro e w12 ⟨rfl, hx⟩
      have HX12 := Lib.hid (hx)
      clear hx HX11
      go_wp2_with fail
      refine (HX12.out.usable (r := true) (by simp only [Pa.usable, outsW_len]; have := HI.out; simp; omega)).mono ?_
      rintro e w13 ⟨rfl, hx⟩
      have HX13 := Lib.hid (hx)
      clear hx HX12
      go_wp2_with fail
      refine (HX13.out.out_yes (i : Int) (i : Int) ((i : Int) + 1) 4 (outsW_no 4 i _ (.inr (Int.le_refl _))) (by show (outsW 4 i).length < 1048576; rw [outsW_len]; have := HI.out; omega) (P' := ⟨true, true, false, (i : Int) + 1, ⟨3, false, 0, 0, 0⟩, ⟨M, 2, M, 0⟩, outsW 4 (i + 1)⟩) rfl).mono ?_
      rintro e w14 ⟨rfl, hx⟩
      have HX14 := Lib.hid (hx)
      clear hx HX13
      go_wp2_with fail
      refine (HX14.out.out_no (i : Int) 0 0 0 i (outsW_first 4 (i + 1) i (by omega))).mono ?_
      rintro e w15 ⟨rfl, hx⟩
      have HX15 := Lib.hid (hx)
      clear hx HX14
      go_wp2
      go_roundw
      case rel => exact ⟨i + 1, by have := HI.out; omega, by first | rfl | (rw [HIW.out]) | go_num, HX15⟩
      case measure => (try rw [HIW.out]); have := HI.out; simp [intOf]; omega
    · have : i = 2 := by omega
      subst this
      have HX50 := hx
      have HACK := Lib.hid (show ∃ s, ((⟨M, 2, M, 0⟩ : Wn).ack).size = s ∧ 2 ≤ s from ⟨_, rfl, by
        have h := Wn.ack_size (g := ⟨M, 2, M, 0⟩) ⟨by have := HM.out; show 1 ≤ M; omega, by have := HM.out; show M ≤ 16; omega, by show (1 : Int) ≤ 2; decide, by have := HM.out; show 2 ≤ M; omega, by have := HM.out; show 1 ≤ M; omega, Int.le_refl _, by show (0 : Int) ≤ 0; decide, by show (0 : Int) < 2; decide⟩
        rcases h with h | h
        · rw [h]; show (2 : Int) ≤ 2; decide
        · rw [h]; show (2 : Int) ≤ 2 + 1; decide⟩)
      obtain ⟨N1, hN1⟩ : ∃ g, (⟨M, 2, M, 0⟩ : Wn).ack = g := ⟨_, rfl⟩
      rw [hN1] at HACK
      have HN1 := Lib.hid hN1
      clear hN1 hx hi hin
      go_wp2_with fail
      refine (HW0.out _).mono ?_
      rintro e w50 ⟨rfl, rfl⟩
      clear HW0
      have n0 : (0 : Int) ≤ (n : Int) := by omega
      have n1 : (n : Int) ≤ 1 := by have := HNB.out; omega
      go_wp2_with fail
      refine (HX50.out.usable (r := false) rfl).mono ?_
      rintro e w51 ⟨rfl, hx⟩
      have HX51 := Lib.hid (hx)
      clear hx HX50
      go_wp2_with fail
      refine (HX51.out.acked (n : Int) 7 n (outsW_first 4 2 n (by have := HNB.out; omega)) (by omega) (by rw [outsW_at 4 2 n (by have := HNB.out; omega)]; show (-1099511627776 : Int) ≤ 4 ∧ (4 : Int) ≤ 1099511627776; decide) (P' := ⟨true, true, false, 2, ⟨3, true, 3, 1, 0⟩, N1, goneQ (outsW 4 2) n⟩) (by unfold Pa.acked; rw [outsW_at 4 2 n (by have := HNB.out; omega), ← HN1.out]; rfl)).mono ?_
      rintro e w52 ⟨rfl, hx⟩
      have HX52 := Lib.hid (hx)
      clear hx HX51
      go_wp2_with fail
      refine (HX52.out.acked_no (n : Int) 7 (by rcases HNB.out with e | e <;> subst e <;> (intro j hj; have hj' : j < 1 := hj; obtain rfl : j = 0 := by omega) <;> first | (show (1 : Int) ≠ 0; decide) | (show (0 : Int) ≠ 1; decide))).mono ?_
      rintro e w53 ⟨rfl, hx⟩
      have HX53 := Lib.hid (hx)
      clear hx HX52
      go_wp2_with fail
      refine (HX53.out.mean (r := 3) rfl).mono ?_
      rintro e w54 ⟨rfl, hx⟩
      have HX54 := Lib.hid (hx)
      clear hx HX53
      go_wp2_with fail
      refine (HX54.out.usable (r := true) (by obtain ⟨s, e1, e2⟩ := HACK.out; have hl : (goneQ (outsW 4 2) n).length = 1 := (by rw [goneQ_len (by rw [outsW_len]; have := HNB.out; omega), outsW_len]); simp only [Pa.usable, hl, e1]; simp; omega)).mono ?_
      rintro e w55 ⟨rfl, hx⟩
      have HX55 := Lib.hid (hx)
      clear hx HX54
      go_wp2_with fail
      refine (HX55.out.sent (r := 2) rfl).mono ?_
      rintro e w56 ⟨rfl, hx⟩
      have HX56 := Lib.hid (hx)
      clear hx HX55
      go_wp2_with fail
      refine (HX56.out.down (L := goneQ (outsW 4 2) n) (m := 1) rfl (by rw [goneQ_len (by rw [outsW_len]; have := HNB.out; omega), outsW_len]) (P' := ⟨false, true, false, 2, ⟨3, true, 3, 1, 0⟩, N1, []⟩) rfl).mono ?_
      rintro e w57 ⟨A9, c9, rfl, ho, hx⟩
      obtain ⟨g, rfl, -⟩ := ho.at (by omega)
      have y0 := (ho.cells 0 (by omega)).1
      rw [Nat.zero_mul, show ((goneQ (outsW 4 2) n).getD 0 qz).n = 1 - (n : Int) by rcases HNB.out with e | e <;> subst e <;> rfl] at y0
      have HX57 := Lib.hid (hx)
      clear hx ho HX56
      go_wp2_with fail
      refine (HX57.out.len (r := 0) rfl).mono ?_
      rintro e w58 ⟨rfl, hx⟩
      have HX58 := Lib.hid (hx)
      clear hx HX57
      go_wp2_with fail
      refine (HX58.out.usable (r := false) rfl).mono ?_
      rintro e w59 ⟨rfl, hx⟩
      have HX59 := Lib.hid (hx)
      clear hx HX58
      go_wp2_with fail
      refine (HX59.out.joined (r := true) rfl).mono ?_
      rintro e w60 ⟨rfl, hx⟩
      have HX60 := Lib.hid (hx)
      clear hx HX59
      go_wp2_with fail
      refine (HX60.out.down (L := []) (m := 0) rfl rfl (P' := ⟨false, true, false, 2, ⟨3, true, 3, 1, 0⟩, N1, []⟩) rfl).mono ?_
      rintro e w61 ⟨A61, c61, rfl, ho, hx⟩
      have HX61 := Lib.hid (hx)
      clear hx ho HX60
      go_wp2_with fail
      refine (HX61.out.up (r := true) rfl rfl).mono ?_
      rintro e w62 ⟨rfl, hx⟩
      have HX62 := Lib.hid (hx)
      clear hx HX61
      go_wp2_with fail
      refine (HX62.out.usable (r := true) (by obtain ⟨s, e1, e2⟩ := HACK.out; simp only [Pa.usable, Pa.setUp, e1]; simp; omega)).mono ?_
      rintro e w63 ⟨rfl, hx⟩
      have HX63 := Lib.hid (hx)
      clear hx HX62
      go_wp2_with fail
      refine (wakes18_any _).mono ?_
      rintro e w99 ⟨rfl, hb⟩
      have HFIN := Lib.hid (HX63.out.later hb).bel
      clear hb HX63 HM HNB HACK HN1
      go_wp2
      go_ret
      exact ⟨rfl, HFIN.out⟩
end Go.Proofs.Ytlkoenlimdfifaa
