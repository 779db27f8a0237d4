/-
  The walk of PathLate.
-/
import Derived.Test.YtlkoenlimdfifaaPathList
import Derived.Test.YtlkoenlimdfifaaPathMath2
import Derived.Test.YtlkoenlimdfifaaWithin
namespace Go.Proofs.Ytlkoenlimdfifaa
open Go.RowKit

theorem wait_new (F : Int) (hF : 1 ≤ F ∧ F ≤ 20) : (⟨F, false, 0, 0, 0⟩ : Gs).wait = F := by
  show min (F * 2 ^ 0) 64 = F
  omega
theorem wait_once (F : Int) (hF : 1 ≤ F ∧ F ≤ 20) : (⟨F, false, 0, 0, 1⟩ : Gs).wait = 2 * F := by
  show min (F * 2 ^ 1) 64 = 2 * F
  omega

set_option maxRecDepth 100000 in
set_option maxHeartbeats 4000000 in
theorem pathLate_walk (a0 a1 : Int) (W : World) :
    Calls Try.prog 6 #[.int .i64 a0, .int .i64 a1] W fun e W' => e = .returned (.bool true) ∧ Below W.heap.size W W' := by
  have q0 := Int.emod_nonneg a1 (show (20 : Int) ≠ 0 by omega)
  have q1 := Int.emod_lt_of_pos a1 (show (0 : Int) < 20 by omega)
  have HW1 := Lib.hid (fun w => within_any a1 20 w (by omega) (by omega))
  obtain ⟨z1, hz1⟩ : ∃ z : Int, a1 % 20 = z := ⟨_, rfl⟩
  rw [hz1] at HW1 q0 q1
  obtain ⟨F, hF⟩ : ∃ F : Int, 1 + z1 = F := ⟨_, rfl⟩
  have HWF := Lib.hid (show wrap64 (1 + z1) = F from wrap_q hF (by omega) (by omega))
  have HF := Lib.hid (show 1 ≤ F ∧ F ≤ 20 by omega)
  clear hz1 q0 q1 hF
  have p0 := Int.emod_nonneg a0 (show (8 : Int) ≠ 0 by omega)
  have p1 := Int.emod_lt_of_pos a0 (show (0 : Int) < 8 by omega)
  have HW0 := Lib.hid (fun w => within_any a0 8 w (by omega) (by omega))
  obtain ⟨z0, hz0⟩ : ∃ z : Int, a0 % 8 = z := ⟨_, rfl⟩
  rw [hz0] at HW0 p0 p1
  obtain ⟨n, hn⟩ : ∃ n : Nat, 1 + z0 = (n : Int) := ⟨(1 + z0).toNat, by omega⟩
  have HWN := Lib.hid (show wrap64 (1 + z0) = (n : Int) from wrap_q hn (by omega) (by omega))
  have HNB := Lib.hid (show 1 ≤ n ∧ n ≤ 8 by omega)
  clear hz0 hn p0 p1
  go_enter Try.func6, Try.ntmps6
  go_wp2_with fail
  refine (plain_any _).mono ?_
  rintro e w0 ⟨rfl, hb⟩
  obtain ⟨V, hV⟩ : ∃ V, w0.alloc (.cells #[.int .i64 1, .int .i64 50, .int .i64 50, .int .i64 10, .int .i64 8, .int .i64 F, .int .i64 1] tCfg) = V := ⟨_, rfl⟩
  have HB1 := Lib.hid (show Below W.heap.size W V by rw [← hV]; exact hb.alloc hb.size _)
  obtain ⟨b, hbq⟩ : ∃ b, w0.heap.size = b := ⟨_, rfl⟩
  have HC := Lib.hid (show ∀ w, Below V.heap.size V w → w.cell? ⟨b, 5, none⟩ = some (.int .i64 F) from fun w hw => cell_later hw (by rw [← hV, World.cell?_alloc_at _ _ _ _ hbq.symm]; rfl))
  have HVV := Lib.hid hV
  have HBQ := Lib.hid hbq
  have HN := Lib.hid (pv_new (W := V) (w := V) 1 50 50 10 8 F 1 (Below.refl _ _) (pa_new F 8 (by have := HF.out; omega) (by omega)))
  clear hb hV hbq
  go_wp2_with fail
  refine (HW1.out _).mono ?_
  rintro e w1 ⟨rfl, rfl⟩
  have hwf := HWF.out
  clear HW1
  go_wp2_with fail
  refine (HW0.out _).mono ?_
  rintro e w1 ⟨rfl, rfl⟩
  have hwn := HWN.out
  clear HW0
  go_wp2_with fail
  rw [HVV.out, HBQ.out, HWN.out]
  refine HN.out.mono ?_
  rintro e w0 ⟨p, rfl, hx⟩
  have HX0 := Lib.hid hx
  have n1 : (1 : Int) ≤ (n : Int) := by have := HNB.out; omega
  have n8 : (n : Int) ≤ 8 := by have := HNB.out; omega
  have f1 := HF.out.1
  have f2 := HF.out.2
  clear hx HN HVV HBQ HWN HWF hwf hwn
  go_wp2_with fail
  refine (HX0.out.up (r := true) rfl rfl).mono ?_
  rintro e w1 ⟨rfl, hx⟩
  have HX1 := Lib.hid (hx)
  clear hx HX0
  go_wp2_with fail
  refine (HX1.out.join (r := true) rfl rfl).mono ?_
  rintro e w2 ⟨rfl, hx⟩
  have HX2 := Lib.hid (hx)
  clear hx HX1
  go_wp2_with fail
  go_loopw [7] (fun iv wr => ∃ i : Nat, i ≤ n ∧ iv = .int .i64 i ∧ Hid (PV V wr p ⟨true, true, false, (i : Int), ⟨F, false, 0, 0, 0⟩, ⟨8, 2, 8, 0⟩, outsW 10 i⟩)) (fun iv _ => n - (intOf iv).toNat)
  case atStart => exact ⟨0, by omega, rfl, HX2⟩
  case round =>
    clear HX2
    obtain ⟨i, hi, rfl, hx⟩ := hrel
    by_cases hin : i < n
    · have HI := Lib.hid hin
      have i1 : (i : Int) < (n : Int) := by omega
      have i2 : (0 : Int) ≤ (i : Int) := by omega
      have HIW := Lib.hid (show wrap64 ((i : Int) + 1) = ((i + 1 : Nat) : Int) from wrap_q (by omega) (by omega) (by omega))
      have HX2 := hx
      clear hx hi hin
      go_wp2_with fail
      refine (HX2.out.number (n := (i : Int)) rfl (by have := HI.out; omega) (P' := ⟨true, true, false, (i : Int) + 1, ⟨F, false, 0, 0, 0⟩, ⟨8, 2, 8, 0⟩, outsW 10 i⟩) rfl).mono ?_
      rintro e w3 ⟨rfl, hx⟩
      have HX3 := Lib.hid (hx)
      clear hx HX2
      go_wp2_with fail
      refine (HX3.out.out_yes (i : Int) (i : Int) ((i : Int) + 1) 10 (outsW_no 10 i _ (.inr (Int.le_refl _))) (by show (outsW 10 i).length < 1048576; rw [outsW_len]; have := HI.out; omega) (P' := ⟨true, true, false, (i : Int) + 1, ⟨F, false, 0, 0, 0⟩, ⟨8, 2, 8, 0⟩, outsW 10 (i + 1)⟩) rfl).mono ?_
      rintro e w4 ⟨rfl, hx⟩
      have HX4 := Lib.hid (hx)
      clear hx HX3
      go_wp2
      go_roundw
      case rel => exact ⟨i + 1, by have := HI.out; omega, by first | rfl | (rw [HIW.out]) | go_num, HX4⟩
      case measure => (try rw [HIW.out]); have := HI.out; simp [intOf]; omega
    · have : i = n := by omega
      subst this
      have HX50 := hx
      have n0 : ¬ ((i : Int) < (i : Int)) := by omega
      clear hx hi hin
      have c5 := HC.out _ HX50.out.bel
      go_wp2_with fail
      refine (HX50.out.late (10 + F - 1) (by omega) (L := []) (m := 0) (by show lateQ (outsW 10 i) (10 + F - 1 - (⟨F, false, 0, 0, 0⟩ : Gs).wait) = []; rw [wait_new F HF.out]; exact late_none (fun q hq => by rw [outsW_mem hq]; omega)) rfl (P' := ⟨true, true, false, (i : Int), ⟨F, false, 0, 0, 0⟩, ⟨8, 2, 8, 0⟩, outsW 10 i⟩) (lateN_none (by show lateQ (outsW 10 i) (10 + F - 1 - (⟨F, false, 0, 0, 0⟩ : Gs).wait) = []; rw [wait_new F HF.out]; exact late_none (fun q hq => by rw [outsW_mem hq]; omega)))).mono ?_
      rintro e w51 ⟨A51, c51, rfl, ho, hx⟩
      have HX51 := Lib.hid (hx)
      clear hx ho HX50
      go_wp2_with fail
      refine (HX51.out.behind (r := false) rfl).mono ?_
      rintro e w52 ⟨rfl, hx⟩
      have HX52 := Lib.hid (hx)
      clear hx HX51
      have c5 := HC.out _ HX52.out.bel
      have HALL := Lib.hid (show lateQ (outsW 10 i) (10 + F - (⟨F, false, 0, 0, 0⟩ : Gs).wait) = outsW 10 i ∧ stayQ (outsW 10 i) (10 + F - (⟨F, false, 0, 0, 0⟩ : Gs).wait) = [] by rw [wait_new F HF.out]; exact late_all (fun q hq => by rw [outsW_mem hq]; omega))
      go_wp2_with fail
      refine (HX52.out.lateL (10 + F) (by omega) (L := outsW 10 i) (m := i) HALL.out.1 (outsW_len 10 i) (P' := ⟨true, true, true, (i : Int), ⟨F, false, 0, 0, 1⟩, ⟨8, 1, 1, 0⟩, []⟩) (lateN_some (L := outsW 10 i) HALL.out.1 (by rw [outsW_len]; have := HNB.out; omega) HALL.out.2)).mono ?_
      rintro e w53 ⟨A9, c9, rfl, hx⟩
      obtain ⟨g, rfl, -⟩ := hx.own.at (by have := HNB.out; omega)
      have HX53 := Lib.hid hx
      clear hx HALL c5 HX52
      go_wp2_with fail
      refine (HX53.out.len (r := 0) rfl).mono ?_
      rintro e w54 ⟨rfl, hx⟩
      have HX54 := Lib.hid (hx)
      clear hx HX53
      go_wp2_with fail
      refine (HX54.out.behind (r := true) rfl).mono ?_
      rintro e w55 ⟨rfl, hx⟩
      have HX55 := Lib.hid (hx)
      clear hx HX54
      go_wp2_with fail
      refine (HX55.out.late 1000 (by omega) (L' := []) (m := 0) rfl rfl (P' := ⟨true, true, true, (i : Int), ⟨F, false, 0, 0, 1⟩, ⟨8, 1, 1, 0⟩, []⟩) rfl).mono ?_
      rintro e w56 ⟨A8, c8, rfl, hx⟩
      have HX56 := Lib.hid (hx)
      clear hx HX55
      go_wp2_with fail
      refine (HX56.out.acked_no 0 50 (fun j hj => absurd hj (by simp))).mono ?_
      rintro e w57 ⟨rfl, hx⟩
      have HX57 := Lib.hid (hx)
      clear hx HX56
      go_wp2_with fail
      go_loopw [108] (fun iv wr => ∃ r : Nat, r ≤ i ∧ iv = .int .i64 r ∧ Hid (PL V wr p ⟨true, true, true, (i : Int), ⟨F, false, 0, 0, 1⟩, ⟨8, 1, 1, 0⟩, []⟩ (.slice (some ⟨g, 0, none⟩) i c9) (outsW 10 i))) (fun iv _ => i - (intOf iv).toNat)
      case atStart => exact ⟨0, by omega, rfl, HX57⟩
      case round =>
        clear HX57
        obtain ⟨r, hr, rfl, hx⟩ := hrel
        by_cases hrn : r < i
        · have y0 := hx.out.own.cells r hrn
          rw [outsW_at 10 i r hrn] at y0
          obtain ⟨y0, y1, y2, y3⟩ := y0
          simp only at y0 y1 y2 y3
          have HI := Lib.hid hrn
          have i1 : (r : Int) < (i : Int) := by omega
          have i2 : (0 : Int) ≤ (r : Int) := by omega
          have HIW := Lib.hid (show wrap64 ((r : Int) + 1) = ((r + 1 : Nat) : Int) from wrap_q (by omega) (by omega) (by omega))
          have HNX := Lib.hid (hx.out.later ((Below.refl _ _).alloc (Nat.le_refl _) (.cells #[.int .i64 (r : Int), .int .i64 (r : Int), .int .i64 ((r : Int) + 1), .int .i64 10] tOutP)))
          clear hx hr hrn
          go_wp2
          go_roundw
          case rel => exact ⟨r + 1, by have := HI.out; omega, by first | rfl | (rw [HIW.out]) | go_num, HNX⟩
          case measure => (try rw [HIW.out]); have := HI.out; simp [intOf]; omega
        · have : r = i := by omega
          subst this
          have HX80 := Lib.hid hx.out.pv
          have c5 := HC.out _ hx.out.bel
          clear hx hr hrn
          go_wp2_with fail
          refine (HX80.out.number (n := (r : Int)) rfl (by have := HNB.out; omega) (P' := ⟨true, true, true, (r : Int) + 1, ⟨F, false, 0, 0, 1⟩, ⟨8, 1, 1, 0⟩, []⟩) rfl).mono ?_
          rintro e w81 ⟨rfl, hx⟩
          have HX81 := Lib.hid (hx)
          clear hx HX80
          go_wp2_with fail
          refine (HX81.out.out_yes (r : Int) 0 0 100 (fun j hj => absurd hj (by simp)) (by simp) (P' := ⟨true, true, true, (r : Int) + 1, ⟨F, false, 0, 0, 1⟩, ⟨8, 1, 1, 0⟩, [⟨(r : Int), 0, 0, 100⟩]⟩) rfl).mono ?_
          rintro e w82 ⟨rfl, hx⟩
          have HX82 := Lib.hid (hx)
          clear hx HX81
          have c5 := HC.out _ HX82.out.bel
          go_wp2_with fail
          refine (HX82.out.late (100 + 2 * F - 1) (by omega) (L := []) (m := 0) (by show lateQ [⟨(r : Int), 0, 0, 100⟩] (100 + 2 * F - 1 - (⟨F, false, 0, 0, 1⟩ : Gs).wait) = []; rw [wait_once F HF.out]; exact late_none (fun q hq => by rw [List.mem_singleton.1 hq]; show 100 + 2 * F - 1 - 2 * F < 100; omega)) rfl (P' := ⟨true, true, true, (r : Int) + 1, ⟨F, false, 0, 0, 1⟩, ⟨8, 1, 1, 0⟩, [⟨(r : Int), 0, 0, 100⟩]⟩) (lateN_none (by show lateQ [⟨(r : Int), 0, 0, 100⟩] (100 + 2 * F - 1 - (⟨F, false, 0, 0, 1⟩ : Gs).wait) = []; rw [wait_once F HF.out]; exact late_none (fun q hq => by rw [List.mem_singleton.1 hq]; show 100 + 2 * F - 1 - 2 * F < 100; omega)))).mono ?_
          rintro e w83 ⟨A83, c83, rfl, ho, hx⟩
          have HX83 := Lib.hid (hx)
          clear hx ho HX82
          go_wp2_with fail
          refine (HX83.out.acked (r : Int) 101 0 ⟨by simp, rfl, fun j hj => by omega⟩ (by omega) (by show (-1099511627776 : Int) ≤ 100 ∧ (100 : Int) ≤ 1099511627776; decide) (P' := ⟨true, true, false, (r : Int) + 1, ⟨F, true, 1, 0, 0⟩, ⟨8, 2, 1, 0⟩, []⟩) rfl).mono ?_
          rintro e w84 ⟨rfl, hx⟩
          have HX84 := Lib.hid (hx)
          clear hx HX83
          go_wp2_with fail
          refine (HX84.out.behind (r := false) rfl).mono ?_
          rintro e w85 ⟨rfl, hx⟩
          have HX85 := Lib.hid (hx)
          clear hx HX84
          go_wp2_with fail
          refine (HX85.out.mean (r := 1) rfl).mono ?_
          rintro e w86 ⟨rfl, hx⟩
          have HX86 := Lib.hid (hx)
          clear hx HX85
          go_wp2_with fail
          refine (HX86.out.down (L := []) (m := 0) rfl rfl (P' := ⟨false, true, false, (r : Int) + 1, ⟨F, true, 1, 0, 0⟩, ⟨8, 2, 1, 0⟩, []⟩) rfl).mono ?_
          rintro e w87 ⟨A87, c87, rfl, ho, hx⟩
          have HX87 := Lib.hid (hx)
          clear hx ho HX86
          go_wp2_with fail
          refine (HX87.out.isup (r := false) rfl).mono ?_
          rintro e w88 ⟨rfl, hx⟩
          have HX88 := Lib.hid (hx)
          clear hx HX87
          go_wp2_with fail
          refine (HX88.out.joined (r := true) rfl).mono ?_
          rintro e w89 ⟨rfl, hx⟩
          have HX89 := Lib.hid (hx)
          clear hx HX88
          go_wp2_with fail
          refine (HX89.out.usable (r := false) rfl).mono ?_
          rintro e w90 ⟨rfl, hx⟩
          have HX90 := Lib.hid (hx)
          clear hx HX89
          go_wp2_with fail
          refine (HX90.out.down (L := []) (m := 0) rfl rfl (P' := ⟨false, true, false, (r : Int) + 1, ⟨F, true, 1, 0, 0⟩, ⟨8, 2, 1, 0⟩, []⟩) rfl).mono ?_
          rintro e w91 ⟨A91, c91, rfl, ho, hx⟩
          have HX91 := Lib.hid (hx)
          clear hx ho HX90
          go_wp2_with fail
          refine (HX91.out.up (r := true) rfl rfl).mono ?_
          rintro e w92 ⟨rfl, hx⟩
          have HX92 := Lib.hid (hx)
          clear hx HX91
          go_wp2_with fail
          refine (HX92.out.usable (r := true) (by show (true && true && decide ((0 : Int) < 2) && decide ((r : Int) + 1 ≤ 65535)) = true; rw [decide_eq_true (show (r : Int) + 1 ≤ 65535 by have := HNB.out; omega)]; rfl)).mono ?_
          rintro e w93 ⟨rfl, hx⟩
          have HX93 := Lib.hid (hx)
          clear hx HX92
          go_wp2_with fail
          refine (wakes18_any _).mono ?_
          rintro e w99 ⟨rfl, hb⟩
          have HFIN := Lib.hid (HB1.out.trans ((HX93.out.later hb).bel.mono HB1.out.size))
          clear hb HX93 HB1 HC HF HNB
          go_wp2
          go_ret
          exact ⟨rfl, HFIN.out⟩
end Go.Proofs.Ytlkoenlimdfifaa
