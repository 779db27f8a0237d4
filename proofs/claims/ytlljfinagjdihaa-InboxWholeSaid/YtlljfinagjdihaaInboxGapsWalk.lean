/-
  The walk of InboxGaps.
-/
import Derived.Test.YtlljfinagjdihaaInMid2
import Derived.Test.YtlljfinagjdihaaWithin
import Derived.Test.YtlljfinagjdihaaFresh
namespace Go.Proofs.Ytlljfinagjdihaa
open Go.RowKit

theorem gd_drop (xs : List Int) (E : Nat) (k : Int) (h : (E : Int) ≤ k) : (xs.drop E).getD (k - (E : Int)).toNat 0 = xs.getD k.toNat 0 := by
  simp only [List.getD_eq_getElem?_getD, List.getElem?_drop]
  rw [show E + (k - (E : Int)).toNat = k.toNat by omega]
theorem gd_take (xs : List Int) (m : Nat) (k : Int) (h0 : 0 ≤ k) (h : k < (m : Int)) : (xs.take m).getD (k - 0).toNat 0 = xs.getD k.toNat 0 := by
  simp only [List.getD_eq_getElem?_getD]
  rw [Int.sub_zero, List.getElem?_take_of_lt (by omega)]
theorem gd_mid (xs : List Int) (a z : Nat) (k : Int) (h0 : (a : Int) ≤ k) (h : k < (a : Int) + (z : Int)) : ((xs.drop a).take z).getD (k - (a : Int)).toNat 0 = xs.getD k.toNat 0 := by
  rw [← gd_drop xs a k h0]
  simp only [List.getD_eq_getElem?_getD]
  rw [List.getElem?_take_of_lt (by omega)]

set_option maxRecDepth 100000 in
set_option maxHeartbeats 4000000 in
theorem inboxGaps_walk (a0 a1 : Int) (a2 : Option Addr) (len2 cap2 : Nat) (z2 : List Int) (W : World) (h2 : ArgI .u8 1 W a2 len2 cap2 z2) :
    Calls Try.prog 4 #[.int .i64 a0, .int .i64 a1, .slice a2 len2 cap2] W fun e W' => e = .returned (.bool true) ∧ Below W.heap.size W W' := by
  have hre2 := h2.reach
  have hle2 := h2.le
  have HC := Lib.hid (Go.Proofs.Ytlljfinagjdihaa.cut_any a2 len2 cap2 30 z2 W h2.len h2.le h2.rd (by omega) (by omega) (by omega))
  obtain ⟨u, hu⟩ : ∃ xs, z2.take 30 = xs := ⟨_, rfl⟩
  have n1 : u.length ≤ 30 := by rw [← hu]; exact List.length_take_le _ _
  obtain ⟨n0, hn0⟩ : ∃ n, u.length = n := ⟨_, rfl⟩
  rw [hn0] at n1
  rw [show (30 : Int).toNat = 30 from rfl, hu, hn0] at HC
  obtain ⟨N, hN⟩ : ∃ N, N = n0 + 3 := ⟨_, rfl⟩
  obtain ⟨b, hb⟩ : ∃ b, u ++ [1, 2, 3] = b := ⟨_, rfl⟩
  have HBL := Lib.hid (show b.length = N by rw [← hb, List.length_append, hn0, hN]; rfl)
  -- the numbers
  obtain ⟨M, hM⟩ : ∃ M : Nat, N = M + 1 := ⟨n0 + 2, by omega⟩
  have HWM := Lib.hid (show wrap64 ((N : Int) - 1) = (M : Int) from wrap_at (by omega) (by omega) (by omega))
  have m0 := Int.emod_nonneg a0 (show (M : Int) ≠ 0 by omega)
  have m1 := Int.emod_lt_of_pos a0 (show (0 : Int) < (M : Int) by omega)
  have HW0 := Lib.hid (fun w => within_any a0 (M : Int) w (by omega) (by omega))
  obtain ⟨a, ha⟩ : ∃ a : Nat, a0 % (M : Int) = (a : Int) := ⟨(a0 % (M : Int)).toNat, by omega⟩
  rw [ha] at HW0 m0 m1
  obtain ⟨R, hR⟩ : ∃ R : Nat, N = a + R := ⟨N - a, by omega⟩
  obtain ⟨Q, hQ⟩ : ∃ Q : Nat, R = Q + 1 := ⟨R - 1, by omega⟩
  have HWR := Lib.hid (show wrap64 ((N : Int) - (a : Int)) = (R : Int) from wrap_at (by omega) (by omega) (by omega))
  have HWQ := Lib.hid (show wrap64 ((R : Int) - 1) = (Q : Int) from wrap_at (by omega) (by omega) (by omega))
  have q0 := Int.emod_nonneg a1 (show (Q : Int) ≠ 0 by omega)
  have q1 := Int.emod_lt_of_pos a1 (show (0 : Int) < (Q : Int) by omega)
  have HW1 := Lib.hid (fun w => within_any a1 (Q : Int) w (by omega) (by omega))
  obtain ⟨z0, hz0⟩ : ∃ z : Int, a1 % (Q : Int) = z := ⟨_, rfl⟩
  rw [hz0] at HW1 q0 q1
  obtain ⟨Z, hZ⟩ : ∃ Z : Nat, 1 + z0 = (Z : Int) := ⟨(1 + z0).toNat, by omega⟩
  have HWZ := Lib.hid (show wrap64 (1 + z0) = (Z : Int) from wrap_at hZ (by omega) (by omega))
  obtain ⟨E, hE⟩ : ∃ E : Nat, E = a + Z := ⟨_, rfl⟩
  have HWE := Lib.hid (show wrap64 ((a : Int) + (Z : Int)) = (E : Int) from wrap_at (by omega) (by omega) (by omega))
  obtain ⟨D, hD⟩ : ∃ D : Nat, N = E + D := ⟨N - E, by omega⟩
  have HWD := Lib.hid (show wrap64 ((R : Int) - (Z : Int)) = (D : Int) from wrap_at (by omega) (by omega) (by omega))
  have HN1 := Lib.hid (show wrap64 ((N : Int) + 1) = (N : Int) + 1 from wrap_at rfl (by omega) (by omega))
  have HN100 := Lib.hid (show wrap64 ((N : Int) + 100) = (N : Int) + 100 from wrap_at rfl (by omega) (by omega))
  have HNUM := Lib.hid (show 3 ≤ N ∧ N ≤ 33 ∧ 1 ≤ Z ∧ E = a + Z ∧ N = E + D ∧ 1 ≤ D ∧ a < N by omega)
  have HNN := Lib.hid (And.intro hN hn0)
  have HBU := Lib.hid hb
  clear hre2 hle2 hu n1 hn0 hN hb hM m0 m1 ha hR hQ q0 q1 hz0 hZ hE hD h2
  go_enter Try.func4, Try.ntmps4
  go_wp2_with fail
  refine HC.out.mono ?_
  rintro e w1 ⟨A1, c1, rfl, ho, hb1⟩
  obtain ⟨A2, c2, w2, hrun, ho2, hg2, -⟩ := run_append_f (P := Try.prog) (w1.alloc (.cells #[.int .u8 1, .int .u8 2, .int .u8 3] 5)) .u8 22 22 5 (.int .u8 0) 1 Try.underlying22 info_byte rfl W.heap.size (.slice A1 n0 c1) u (ho.alloc _) (some ⟨w1.heap.size, 0, none⟩) 3 3 [1, 2, 3] rfl (Rd.new w1 [1, 2, 3] 5) (by have := HNUM.out; have := HNN.out; unfold maxLen; omega) (by have := HNUM.out; have := HNN.out; omega) (by simpa using Nat.le_succ_of_le hb1.size)
  rw [HNN.out.2, ← HNN.out.1] at hrun ho2
  rw [HBU.out] at ho2
  have HB2 := Lib.hid (hb1.trans ((((Below.refl _ _).alloc (Nat.le_refl _) _).mono hb1.size).trans ((Trn.of_grown hg2).below (by simpa using Nat.le_succ_of_le hb1.size) (fun k hk => (ho.lt k hk).1))))
  have HO := Lib.hid ho2
  clear ho hb1 hg2 ho2 HC
  go_wp2_with (at_builtin; refine Lib.wpList_append_run _ rfl _ _ _ _ rfl _ _ rfl rfl _ _ hrun ?_)
  rw [HWM.out]
  refine (HW0.out _).mono ?_
  rintro e w3 ⟨rfl, rfl⟩
  go_wp2_with fail
  rw [HWR.out, HWQ.out]
  refine (HW1.out _).mono ?_
  rintro e w4 ⟨rfl, rfl⟩
  clear HW0 HW1
  have HCAP := Lib.hid HO.out.cap
  obtain ⟨S1, hS1⟩ : ∃ S, (if c2 = E then A2 else A2.map (·.add E)) = S := ⟨_, rfl⟩
  obtain ⟨C1, hC1⟩ : ∃ C, c2 - E = C := ⟨_, rfl⟩
  obtain ⟨S3, hS3⟩ : ∃ S, (if c2 = a then A2 else A2.map (·.add a)) = S := ⟨_, rfl⟩
  obtain ⟨C3, hC3⟩ : ∃ C, c2 - a = C := ⟨_, rfl⟩
  have hs1 := fun W => slice_lI A2 N c2 E (by have := HNUM.out; omega) W
  rw [hS1, hC1, show N - E = D by have := HNUM.out; omega] at hs1
  have hs2 := fun W => slice_hI A2 N c2 a (by have := HNUM.out; have := HCAP.out; omega) W
  have hs3 := fun W => slice_lhI A2 N c2 a E (by have := HNUM.out; omega) (by have := HNUM.out; have := HCAP.out; omega) W
  rw [hS3, hC3, show E - a = Z by have := HNUM.out; omega] at hs3
  have hr1 := HO.out.rd.drop E c2 (by rw [HBL.out]; have := HNUM.out; omega) (by rw [HBL.out]; have := HCAP.out; omega)
  have hr3 := (HO.out.rd.drop a c2 (by rw [HBL.out]; have := HNUM.out; omega) (by rw [HBL.out]; have := HCAP.out; omega)).take Z
  rw [hS1] at hr1
  rw [hS3] at hr3
  have HR1 := Lib.hid hr1
  have HR2 := Lib.hid (HO.out.rd.take a)
  have HR3 := Lib.hid hr3
  have HRB := Lib.hid HO.out.rd
  have HNW := Lib.hid (fun w => wv_new (W := 100) 100 b w rfl)
  clear hr1 hr3 hS1 hC1 hS3 hC3 HO HCAP
  go_wp2_with fail
  rw [HWZ.out]
  refine (HNW.out _).mono ?_
  rintro e w5 ⟨p, F, rfl, hx⟩
  have HX := Lib.hid hx
  clear hx HNW
  have hwe := HWE.out
  have hwr := HWR.out
  have hwd := HWD.out
  go_wp2_with fail
  refine (HX.out.putOld (m := D) (ys := b.drop E) (by rw [List.length_drop, HBL.out]; have := HNUM.out; omega) HR1.out true (by have := HNUM.out; omega) (by have := HNUM.out; omega) (by have := HNUM.out; omega) (N) (fun k => (E : Int) ≤ k ∧ k < (N : Int)) (E) (N) (D) (by have := HNUM.out; intro k; (try dsimp only); omega) (fun k h1 _ _ _ _ _ => gd_drop b E k h1) (.inl ⟨rfl, by omega, by omega, (by have := HNUM.out; omega), (by intro j; (try dsimp only); omega), (by have := HNUM.out; omega)⟩) (by have := HNUM.out; omega) (by have := HNUM.out; intro k; (try dsimp only); omega) (by have := HNUM.out; omega)).mono ?_
  rintro e w101 ⟨rfl, F101, hx, -⟩
  have HY9 := Lib.hid hx
  clear hx HX
  have HX := HY9
  clear HY9
  go_wp2_with fail
  refine (HX.out.putOld (m := a) (ys := b.take a) (by rw [List.length_take, HBL.out]; have := HNUM.out; omega) HR2.out false (by have := HNUM.out; omega) (by have := HNUM.out; omega) (by have := HNUM.out; omega) (N) (fun k => (0 ≤ k ∧ k < (a : Int)) ∨ ((E : Int) ≤ k ∧ k < (N : Int))) (0) (a) (a) (by have := HNUM.out; intro k; (try dsimp only); omega) (fun k h1 h2 h3 _ _ _ => gd_take b a k h3 (by omega)) (.inr ⟨.inl rfl, rfl⟩) (by have := HNUM.out; omega) (by have := HNUM.out; intro k; (try dsimp only); omega) (by have := HNUM.out; omega)).mono ?_
  rintro e w102 ⟨rfl, F102, hx, -⟩
  have HY9 := Lib.hid hx
  clear hx HX
  have HX := HY9
  clear HY9
  go_wp2_with fail
  refine (HX.out.seen a a (by omega) (by have := HNUM.out; intro k; (try dsimp only); omega) (by have := HNUM.out; (try dsimp only); omega) (by have := HNUM.out; omega) (by have := HNUM.out; omega)).mono ?_
  rintro e w103 ⟨rfl, hb⟩
  have HY9 := Lib.hid (HX.out.later hb)
  clear HX
  have HX := HY9
  clear HY9
  clear hb
  go_wp2_with fail
  refine (HX.out.ready a a (by omega) (by have := HNUM.out; intro k; (try dsimp only); omega) (by have := HNUM.out; (try dsimp only); omega) (by have := HNUM.out; omega) (by have := HNUM.out; omega)).mono ?_
  rintro e w104 ⟨rfl, hb⟩
  have HY9 := Lib.hid (HX.out.later hb)
  clear HX
  have HX := HY9
  clear HY9
  clear hb
  go_wp2_with fail
  refine (HX.out.done false (decide_eq_false (by have := HNUM.out; omega)).symm).mono ?_
  rintro e w105 ⟨rfl, hb⟩
  have HY9 := Lib.hid (HX.out.later hb)
  clear HX
  have HX := HY9
  clear HY9
  clear hb
  go_wp2_with fail
  refine (HX.out.putNil false (by omega) (by omega) (N : Int) (.inr ⟨.inl rfl, rfl⟩)).mono ?_
  rintro e w106 ⟨rfl, F106, hx, -⟩
  have HY9 := Lib.hid hx
  clear hx HX
  have HX := HY9
  clear HY9
  go_wp2_with fail
  refine (HX.out.seen a a (by omega) (by have := HNUM.out; intro k; (try dsimp only); omega) (by have := HNUM.out; (try dsimp only); omega) (by have := HNUM.out; omega) (by have := HNUM.out; omega)).mono ?_
  rintro e w107 ⟨rfl, hb⟩
  have HY9 := Lib.hid (HX.out.later hb)
  clear HX
  have HX := HY9
  clear HY9
  clear hb
  go_wp2_with fail
  refine (HX.out.putOld (m := Z) (ys := (b.drop a).take Z) (by rw [List.length_take, List.length_drop, HBL.out]; have := HNUM.out; omega) HR3.out false (by have := HNUM.out; omega) (by have := HNUM.out; omega) (by have := HNUM.out; omega) (N) (fun k => 0 ≤ k ∧ k < (N : Int)) (a) (E) (Z) (by have := HNUM.out; intro k; (try dsimp only); omega) (fun k h1 h2 _ _ _ _ => gd_mid b a Z k h1 h2) (.inr ⟨.inl rfl, rfl⟩) (by have := HNUM.out; omega) (by have := HNUM.out; intro k; (try dsimp only); omega) (by have := HNUM.out; omega)).mono ?_
  rintro e w108 ⟨rfl, F108, hx, -⟩
  have HY9 := Lib.hid hx
  clear hx HX
  have HX := HY9
  clear HY9
  clear hwe hwr hwd
  have hn1 := HN1.out
  go_wp2_with fail
  refine (HX.out.seen N ((N : Int) + 1) (by omega) (by have := HNUM.out; intro k; (try dsimp only); omega) (by have := HNUM.out; (try dsimp only); omega) (by have := HNUM.out; omega) (.inl ⟨rfl, rfl⟩)).mono ?_
  rintro e w109 ⟨rfl, hb⟩
  have HY9 := Lib.hid (HX.out.later hb)
  clear HX
  have HX := HY9
  clear HY9
  clear hb
  go_wp2_with fail
  refine (HX.out.ready N N (by omega) (by have := HNUM.out; intro k; (try dsimp only); omega) (by have := HNUM.out; (try dsimp only); omega) (by have := HNUM.out; omega) (by have := HNUM.out; omega)).mono ?_
  rintro e w110 ⟨rfl, hb⟩
  have HY9 := Lib.hid (HX.out.later hb)
  clear HX
  have HX := HY9
  clear HY9
  clear hb
  go_wp2_with fail
  refine (HX.out.done false (decide_eq_false (by have := HNUM.out; omega)).symm).mono ?_
  rintro e w111 ⟨rfl, hb⟩
  have HY9 := Lib.hid (HX.out.later hb)
  clear HX
  have HX := HY9
  clear HY9
  clear hb
  go_wp2_with fail
  refine (HX.out.read 1000 N 0 N (by omega) (by have := HNUM.out; intro k; (try dsimp only); omega) (by have := HNUM.out; (try dsimp only); omega) rfl (by have := HNUM.out; omega) (by have := HNUM.out; omega) (by rw [HBL.out]; omega) (N : Int) (by omega)).mono ?_
  rintro e w112 ⟨A9, c9, rfl, ho, hx, -⟩
  rw [show (b.drop 0).take N = b by rw [List.drop_zero, List.take_of_length_le (by rw [HBL.out]; omega)]] at ho
  have HY9 := Lib.hid hx
  have HO := Lib.hid ho
  clear hx ho HX
  have HX := HY9
  clear HY9
  go_wp2_with fail
  refine (same_true b HBL.out HBL.out HO.out.rd (HX.out.old HRB.out).1 (by rw [HBL.out]; unfold maxLen; have := HNUM.out; omega)).mono ?_
  rintro e w120 ⟨rfl, k6, rfl⟩
  have HY9 := Lib.hid (HX.out.later (below_drewN _ k6))
  clear HX HO
  have HX := HY9
  clear HY9
  go_wp2_with fail
  refine (HX.out.done true (decide_eq_true (by have := HNUM.out; omega)).symm).mono ?_
  rintro e w113 ⟨rfl, hb⟩
  have HY9 := Lib.hid (HX.out.later hb)
  clear HX
  have HX := HY9
  clear HY9
  clear hb
  go_wp2_with fail
  refine (HX.out.seen N ((N : Int) + 1) (by omega) (by have := HNUM.out; intro k; (try dsimp only); omega) (by have := HNUM.out; (try dsimp only); omega) (by have := HNUM.out; omega) (.inl ⟨rfl, rfl⟩)).mono ?_
  rintro e w114 ⟨rfl, hb⟩
  have HY9 := Lib.hid (HX.out.later hb)
  clear HX
  have HX := HY9
  clear HY9
  clear hb
  have hn2 := HN100.out
  go_wp2_with fail
  refine (HX.out.limit (by have := HNUM.out; omega)).mono ?_
  rintro e w115 ⟨rfl, hb⟩
  have HY9 := Lib.hid (HX.out.later hb)
  clear HX
  have HX := HY9
  clear HY9
  clear hb
  go_wp2_with fail
  refine (wakesI_any _).mono ?_
  rintro e w130 ⟨rfl, hb⟩
  have HFIN := Lib.hid (HB2.out.trans ((HX.out.later hb).bel.mono HB2.out.size))
  clear hb HX
  go_wp2
  go_ret
  exact ⟨rfl, HFIN.out⟩
end Go.Proofs.Ytlljfinagjdihaa
