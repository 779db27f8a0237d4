/-
  The walk of PlanAgain.
-/
import Derived.Test.YtjpnpaacekdeeaaPlanOut
import Derived.Test.YtjpnpaacekdeeaaPlanSmall
import Derived.Test.YtjpnpaacekdeeaaWithin
import Derived.Test.YtjpnpaacekdeeaaAppZeros
namespace Go.Proofs.Ytjpnpaacekdeeaa
open Go.RowKit

set_option maxRecDepth 100000 in
set_option maxHeartbeats 4000000 in
theorem planAgain_walk (a0 : Option Addr) (len0 cap0 : Nat) (z0 : List Int) (a1 a2 a3 : Int) (W : World) (h0 : ArgI .u8 1 W a0 len0 cap0 z0) (_ : (Lit.int .i64 a1).wf = true) (_ : (Lit.int .i64 a2).wf = true) (_ : (Lit.int .i64 a3).wf = true) :
    Calls Try.prog 3 #[.slice a0 len0 cap0, .int .i64 a1, .int .i64 a2, .int .i64 a3] W fun e W' => e = .returned (.bool true) ∧ Below W.heap.size W W' := by
  have hre0 := h0.reach
  have hle0 := h0.le
  have HC0 := Lib.hid (Go.Proofs.Ytjpnpaacekdeeaa.cut_any a0 len0 cap0 60 z0 W h0.len h0.le h0.rd (by omega) (by omega) (by omega))
  obtain ⟨xs, hxs⟩ : ∃ xs, z0.take 60 = xs := ⟨_, rfl⟩
  have hl : xs.length ≤ 60 := by rw [← hxs]; exact List.length_take_le _ _
  obtain ⟨L, hL⟩ : ∃ n, xs.length = n := ⟨_, rfl⟩
  rw [hL] at hl
  rw [show (60 : Int).toNat = 60 from rfl, hxs, hL] at HC0
  obtain ⟨ys, hys⟩ : ∃ ys, xs ++ List.replicate 12 0 = ys := ⟨_, rfl⟩
  have hyl : ys.length = L + 12 := by rw [← hys, List.length_append, hL, List.length_replicate]
  obtain ⟨N, hN⟩ : ∃ N, L + 12 = N := ⟨_, rfl⟩
  rw [hN] at hyl
  have n0 : 12 ≤ N := by omega
  have n1 : N ≤ 72 := by omega
  have HYL := Lib.hid hyl
  -- what append leaves
  have HAPP := Lib.hid (show ∀ (w : World) (A : Option Addr) (c : Nat), Own .u8 5 w W.heap.size (.slice A L c) xs → W.heap.size ≤ w.heap.size → Below W.heap.size W w → ∃ A' c' w', (Builtin.append_ #[22, 3] 22 #[.slice A L c, .int .i64 12]).run Try.prog w = .ok (.slice A' N c') w' ∧ Own .u8 5 w' W.heap.size (.slice A' N c') ys ∧ Below W.heap.size W w' from fun w A c ho hB hb => by
    obtain ⟨A', c', w', h1, h2, h3⟩ := run_app_zeros (P := Try.prog) w 22 3 22 5 Try.underlying22 Try.underlying3 info_byte W.heap.size _ xs ho 12 (by omega) (by omega) hB
    rw [hL, hN] at h1 h2
    rw [hys] at h2
    exact ⟨A', c', w', h1, h2, hb.grown h3 hB (fun k e => (ho.lt k e).1)⟩)
  clear hys
  -- the numbers
  have HW1 := Lib.hid (fun w => within_any a1 6 w (by omega) (by omega))
  obtain ⟨c0, hc1⟩ : ∃ c, a1 % 6 = c := ⟨_, rfl⟩
  have c00 : 0 ≤ c0 ∧ c0 < 6 := by rw [← hc1]; exact ⟨Int.emod_nonneg _ (by omega), Int.emod_lt_of_pos _ (by omega)⟩
  rw [hc1] at HW1
  obtain ⟨C, hC⟩ : ∃ C, 1 + c0 = C := ⟨_, rfl⟩
  have c10 : 1 ≤ C ∧ C ≤ 6 := by omega
  have hwC : wrap64 (1 + c0) = C := wrap_at hC (by omega) (by omega)
  obtain ⟨D, hD⟩ : ∃ D, (N : Int).tdiv C = D := ⟨_, rfl⟩
  have hDe : D = (N : Int) / C := by rw [← hD]; exact Int.tdiv_eq_ediv_of_nonneg (by omega)
  have d1 : 2 ≤ D := by rw [hDe]; exact (Int.le_ediv_iff_mul_le (by omega)).2 (by omega)
  have d2 : D * C ≤ N := by rw [hDe]; exact Int.ediv_mul_le _ (by omega)
  have d3 : D ≤ 72 := by
    have := Int.mul_le_mul_of_nonneg_left c10.1 (show 0 ≤ D by omega)
    omega
  have hwD : wrap64 (D - 1) = D - 1 := wrap_at rfl (by omega) (by omega)
  have hwD0 : wrap64 D = D := wrap_at rfl (by omega) (by omega)
  have HW2 := Lib.hid (fun w => within_any a3 (D - 1) w (by omega) (by omega))
  obtain ⟨k0, hk0⟩ : ∃ c, a3 % (D - 1) = c := ⟨_, rfl⟩
  have k00 : 0 ≤ k0 ∧ k0 < D - 1 := by rw [← hk0]; exact ⟨Int.emod_nonneg _ (by omega), Int.emod_lt_of_pos _ (by omega)⟩
  rw [hk0] at HW2
  obtain ⟨K, hK⟩ : ∃ C, 2 + k0 = C := ⟨_, rfl⟩
  have hwK : wrap64 (2 + k0) = K := wrap_at hK (by omega) (by omega)
  have k1 : 2 ≤ K ∧ K ≤ D := by omega
  have hwK1 : wrap64 (K - 1) = K - 1 := wrap_at rfl (by omega) (by omega)
  have HW3 := Lib.hid (fun w => within_any a2 (K - 1) w (by omega) (by omega))
  obtain ⟨f, hf⟩ : ∃ c, a2 % (K - 1) = c := ⟨_, rfl⟩
  have f00 : 0 ≤ f ∧ f < K - 1 := by rw [← hf]; exact ⟨Int.emod_nonneg _ (by omega), Int.emod_lt_of_pos _ (by omega)⟩
  rw [hf] at HW3
  obtain ⟨S, hS⟩ : ∃ S, K * C = S := ⟨_, rfl⟩
  have s1 : S ≤ N := by
    have := Int.mul_le_mul_of_nonneg_right k1.2 (show 0 ≤ C by omega)
    omega
  -- of a piece: where it begins, where it ends
  have HM := Lib.hid (show ∀ k : Int, 0 ≤ k → k < K → 0 ≤ k * C ∧ k * C + C ≤ S ∧ wrap64 (k * C) = k * C ∧ wrap64 ((k + 1) * C) = k * C + C ∧ wrap64 (k + 1) = k + 1 from fun k h1 h2 => by
    have e1 : 0 ≤ k * C := Int.mul_nonneg h1 (by omega)
    have e2 : (k + 1) * C = k * C + C := by rw [Int.add_mul, Int.one_mul]
    have e3 : (k + 1) * C ≤ K * C := Int.mul_le_mul_of_nonneg_right (by omega) (by omega)
    rw [hS, e2] at e3
    exact ⟨e1, e3, wrap_at rfl (by omega) (by omega), by rw [e2]; exact wrap_at rfl (by omega) (by omega), wrap_at rfl (by omega) (by omega)⟩)
  obtain ⟨A, hA⟩ : ∃ A, f * C = A := ⟨_, rfl⟩
  have hA0 : 0 ≤ A := by rw [← hA]; exact Int.mul_nonneg f00.1 (by omega)
  have e1 : (f + 1) * C = A + C := by rw [Int.add_mul, Int.one_mul, hA]
  have e2 : (f + 2) * C = A + 2 * C := by rw [Int.add_mul, hA]
  have e3 : (f + 2) * C ≤ K * C := Int.mul_le_mul_of_nonneg_right (by omega) (by omega)
  rw [hS, e2] at e3
  obtain ⟨A1, hA1⟩ : ∃ x, A + C = x := ⟨_, rfl⟩
  obtain ⟨A2, hA2⟩ : ∃ x, A + 2 * C = x := ⟨_, rfl⟩
  obtain ⟨f1, hf1⟩ : ∃ x, f + 1 = x := ⟨_, rfl⟩
  obtain ⟨f2, hf2⟩ : ∃ x, f + 2 = x := ⟨_, rfl⟩
  rw [hA1, hf1] at e1
  rw [hA2, hf2] at e2
  have m0 : wrap64 (f * C) = A := wrap_at hA (by omega) (by omega)
  have m1 : wrap64 (f + 1) = f1 := wrap_at hf1 (by omega) (by omega)
  have m2 : wrap64 (f + 2) = f2 := wrap_at hf2 (by omega) (by omega)
  have m3 : wrap64 (f1 * C) = A1 := wrap_at e1 (by omega) (by omega)
  have m4 : wrap64 (f2 * C) = A2 := wrap_at e2 (by omega) (by omega)
  have m5 := run_min2 A2 (N : Int) A2 (by omega)
  obtain ⟨O, hO⟩ : ∃ O : Ou, (⟨100, ys, false, 0⟩ : Ou) = O := ⟨_, rfl⟩
  have o1 : (O.xs.length : Int) = N := by rw [← hO]; simp [hyl]
  have o2 : O.cl = false := by rw [← hO]
  have o3 : O.ak = 0 := by rw [← hO]
  have X0 := Lib.hid (fun s => next_open O s N C (by omega) o1 o2)
  have X1 := Lib.hid (lost_one S A1 A2 (by omega) (by omega) (by omega) (by omega))
  have X2 := Lib.hid (lost_two S A A1 A2 (by omega) (by omega) (by omega) (by omega) (by omega))
  have X3 := Lib.hid (next_lost O S A A2 N 60 o3 (by omega) (reach_open O A A2 _ o2 (by rw [show chk 60 = 60 from rfl]; omega)))
  have HO := Lib.hid hO
  have HWA := Lib.hid wakesP_any
  have HNUM := Lib.hid (And.intro s1 (And.intro k1 (And.intro c10 d3)))
  have HSS := Lib.hid hS
  have HNN := Lib.hid (And.intro n0 n1)
  have hCz : ¬ (C = 0) := by omega
  have HMM := Lib.hid (And.intro m0 (And.intro m1 (And.intro m2 (And.intro m3 (And.intro m4 m5)))))
  have HWD := Lib.hid (And.intro hD (And.intro hwD (And.intro hwK (And.intro hwK1 hwD0))))
  have HLOOP := Lib.hid (show ∀ k : Nat, (k : Int) < K → (k : Int) * C < N ∧ min ((k : Int) * C + C) (N : Int) = (k : Int) * C + C from fun k hk => by
    have := HM.out k (by omega) hk
    omega)
  have HEND := Lib.hid (show K * C ≤ N by rw [hS]; exact s1)
  clear h0 hxs hL hyl hc1 hC hO c00 hDe d1 d2 d3 hk0 k00 hK hf f00 hA hA0 e1 e2 e3 hA1 hA2 hf1 hf2 o1 o2 o3 s1 hN hS hre0 hle0 hl m0 m1 m2 m3 m4 m5 hD hwD hwK hwK1 hwD0 n0 n1 k1
  go_enter Try.func3, Try.ntmps3
  go_wp2_with fail
  refine HC0.out.mono ?_
  rintro e w1 ⟨A0, c0', rfl, ho, hb⟩
  obtain ⟨A1', c1, w2, hrun, ho1, hb2⟩ := HAPP.out w1 A0 c0' ho hb.size hb
  have HO1 := Lib.hid ho1
  have HB2 := Lib.hid hb2
  clear ho hb HC0 HAPP ho1 hb2
  go_wp2_with (at_builtin; refine Lib.wpList_append_run _ rfl _ _ _ _ rfl _ _ rfl rfl _ _ hrun ?_)
  clear hrun
  refine (HW1.out _).mono ?_
  rintro e w' ⟨rfl, rfl⟩
  go_wp2_with fail
  try rw [hwC]
  clear hwC
  obtain ⟨b, hb⟩ : ∃ b, w2.heap.size = b := ⟨_, rfl⟩
  have HN1 := newplan_any w2
  rw [hb] at HN1
  have HBB := Lib.hid hb
  clear hb
  refine HN1.mono ?_
  rintro e w3 ⟨rfl, h3, b3, _⟩
  rw [← HBB.out] at h3 b3
  have H3 := Lib.hid h3
  have HO3 := Lib.hid (HO1.out.later b3)
  have HB3 := Lib.hid b3
  clear h3 b3 HO1 HN1
  go_wp2_with fail
  obtain ⟨po, hpo⟩ : ∃ b, w3.heap.size = b := ⟨_, rfl⟩
  have HN1 := newout_any 100 w3
  rw [hpo] at HN1
  have HPO := Lib.hid hpo
  clear hpo
  refine HN1.mono ?_
  rintro e w4 ⟨rfl, h4, b4, _⟩
  rw [← HPO.out] at h4 b4
  have h4' := PO.new H3.out HB3.out h4 b4
  rw [HPO.out, HBB.out] at h4'
  have H4 := Lib.hid h4'
  have HO4 := Lib.hid (HO3.out.later b4)
  have HWR := Lib.hid (H4.out.write A1' N c1 ys HYL.out HO4.out.rd HO4.out.cap (by have := HNN.out; omega) N (by rw [show (Ou.new 100).room = 100 from by decide]; have := HNN.out; omega))
  rw [show (Ou.new 100).more (ys.take N) = O from by rw [List.take_of_length_le (by rw [HYL.out]; exact Nat.le_refl _)]; exact HO.out] at HWR
  clear h4 b4 h4' H3 HB3 HN1 HO3
  go_wp2_with fail
  refine HWR.out.mono ?_
  rintro e w5 ⟨rfl, vo, h5, _⟩
  have H5 := Lib.hid h5
  clear h5 HWR H4 HO4
  obtain ⟨hD, hwD, hwK, hwK1, hwD0⟩ := HWD.out
  go_wp2_with fail
  try rw [hwD0]
  try rw [hwD]
  refine (HW2.out _).mono ?_
  rintro e w' ⟨rfl, rfl⟩
  go_wp2_with fail
  try rw [hwK]
  clear hD hwD hwK hwK1 hwD0
  go_loopw [11] (fun i wr => ∃ (k : Nat) (v : Value), i = .int .i64 k ∧ (k : Int) ≤ K ∧ Hid (PO w2 wr (b + 1) b v ⟨[], (k : Int) * C⟩ po vo O)) (fun i _ => (K - intOf i).toNat)
  case atStart => exact ⟨0, _, rfl, by have := HNUM.out; omega, Lib.hid (by rw [show ((0 : Nat) : Int) * C = 0 by simp]; exact H5.out)⟩
  case round =>
    obtain ⟨k, v, rfl, hk, hp⟩ := hrel
    by_cases hlt : (k : Int) < K
    · obtain ⟨g1, g2, q1, q3, q2⟩ := HM.out k (by omega) hlt
      obtain ⟨g3, g4⟩ := HLOOP.out k hlt
      have q4 := run_min2 ((k : Int) * C + C) (N : Int) _ rfl
      rw [g4] at q4
      have hx := (X0.out ((k : Int) * C)).1 g3
      rw [g4] at hx
      have g5 : ((k + 1 : Nat) : Int) * C = (k : Int) * C + C := by rw [Int.natCast_add, Int.add_mul]; simp
      rw [← q2] at q3
      have hq2 : wrap64 ((k : Int) + 1) = ((k + 1 : Nat) : Int) := q2
      have HQ2 := Lib.hid hq2
      have q3' : wrap64 (wrap64 ((k : Int) + 1) * C) = (k : Int) * C + C := q3
      have HG5 := Lib.hid g5
      have HC := Lib.hid (hp.out.next N C _ hx)
      clear hx hp g1 g2 g3 g4 g5 hk q2 hq2 q3
      obtain ⟨s, hs⟩ : ∃ x, (k : Int) * C = x := ⟨_, rfl⟩
      replace q1 := q1.trans hs
      rw [hs] at q3' q4 HC HG5
      obtain ⟨s2, hs2⟩ : ∃ x, s + C = x := ⟨_, rfl⟩
      rw [hs2] at q3' q4 HC HG5
      have HS0 := Lib.hid (And.intro hs hs2)
      clear hs hs2
      have i1 := hlt
      go_wp2_with fail
      refine HC.out.mono ?_
      rintro e w7 ⟨rfl, v7, h7, _⟩
      have H7 := Lib.hid h7
      clear h7 HC
      go_wp2
      go_roundw
      case rel => exact ⟨k + 1, v7, by rw [HQ2.out], by clear q1 q3' q4; omega, Lib.hid (by rw [HG5.out]; exact H7.out)⟩
      case measure => clear q1 q3' q4; rw [HQ2.out]; simp [intOf]; omega
    · have hkK : (k : Int) = K := by omega
      have hp2 : PO w2 wr (b + 1) b v ⟨[], S⟩ po vo O := by have := hp.out; rw [hkK, HSS.out] at this; exact this
      have HP := Lib.hid hp2
      have i1 : ¬ ((k : Int) < K) := hlt
      clear hp hp2 hkK hlt hk
      go_wp2_with fail
      refine (sent_any HP.out.pl).mono ?_
      rintro e w8 ⟨rfl, rfl⟩
      go_wp2_with fail
      try rw [HWD.out.2.2.2.1]
      refine (HW3.out _).mono ?_
      rintro e w9 ⟨rfl, rfl⟩
      go_wp2_with fail
      clear i1
      go_loopw [16] (fun i wr => ∃ (k : Nat) (v : Value), i = .int .i64 k ∧ k ≤ 2 ∧ Hid (PO w2 wr (b + 1) b v ⟨[], S⟩ po vo O)) (fun i _ => 2 - (intOf i).toNat)
      case atStart => exact ⟨0, _, rfl, by omega, HP⟩
      case round =>
        obtain ⟨j, v3, rfl, hj, hp3⟩ := hrel
        by_cases hj2 : j < 2
        · have j1 : (j : Int) < 2 := by omega
          obtain ⟨m0, m1, m2, m3, m4, m5⟩ := HMM.out
          go_wp2_with fail
          try rw [m1]
          try rw [m3]
          try rw [m2]
          try rw [m4]
          refine (hp3.out.lost A1 A2 _ X1.out).mono ?_
          rintro e w10 ⟨rfl, v4, h4, _⟩
          have H10 := Lib.hid h4
          clear h4 hp3
          go_wp2_with fail
          try rw [m0]
          try rw [m1]
          try rw [m3]
          refine (H10.out.lost A A1 _ X2.out).mono ?_
          rintro e w11 ⟨rfl, v5, h5, _⟩
          have H11 := Lib.hid h5
          clear h5 H10
          go_wp2_with fail
          refine H11.out.missing.mono ?_
          rintro e w12 ⟨B1, d1, rfl, h6, h7, _⟩
          have r1 : (1 : Nat) = 1 := rfl
          obtain ⟨g, rfl, _⟩ := h6.at (by simp)
          have x1 := (h6.cells 0 (by simp)).1
          have x2 := (h6.cells 0 (by simp)).2
          simp only [List.getD_cons_zero, Nat.zero_mul] at x1 x2
          have H12 := Lib.hid h7
          clear h6 h7 H11
          go_wp2_with fail
          refine (H12.out.next N 60 _ X3.out).mono ?_
          rintro e w13 ⟨rfl, v6, h8, _⟩
          have H13 := Lib.hid h8
          clear h8 H12 x1 x2
          go_wp2_with fail
          refine H13.out.missing.mono ?_
          rintro e w14 ⟨B2, d2, rfl, _, h9, _⟩
          have H14 := Lib.hid h9
          clear h9 H13
          go_wp2_with fail
          refine (sent_any H14.out.pl).mono ?_
          rintro e w15 ⟨rfl, rfl⟩
          go_wp2
          go_roundw
          case rel => exact ⟨j + 1, v6, by go_num, by omega, H14⟩
          case measure => clear m0 m1 m2 m3 m4 m5; simp [intOf]; omega
        · have j1 : ¬ ((j : Int) < 2) := by omega
          have hsn := HNUM.out.1
          by_cases hSN : S < (N : Int)
          · have hx := (X0.out S).1 hSN
            obtain ⟨Z, hZ⟩ : ∃ z, min (S + C) (N : Int) = z := ⟨_, rfl⟩
            rw [hZ] at hx
            have HC := Lib.hid (hp3.out.next N C _ hx)
            clear hx hp3 hZ hsn hj hj2
            go_wp2_with fail
            refine HC.out.mono ?_
            rintro e w10 ⟨rfl, v4, h4, _⟩
            have HF := Lib.hid (HB2.out.trans (h4.bel.mono HB2.out.size))
            clear h4 HC
            go_wp2_with fail
            refine (HWA.out _).mono ?_
            rintro e w11 ⟨rfl, hb10⟩
            have HF2 := Lib.hid (HF.out.trans (hb10.mono HF.out.size))
            clear hb10 HF
            go_wp2_with fail
            go_ret
            exact ⟨rfl, HF2.out⟩
          · have hSe : S = (N : Int) := by omega
            subst hSe
            have hx := (X0.out (N : Int)).2 (Int.le_refl _)
            have HC := Lib.hid (hp3.out.next N C _ hx)
            clear hx hp3 hsn hj hj2 hSN
            go_wp2_with fail
            refine HC.out.mono ?_
            rintro e w10 ⟨rfl, v4, h4, _⟩
            have HF := Lib.hid (HB2.out.trans (h4.bel.mono HB2.out.size))
            clear h4 HC
            go_wp2_with fail
            refine (HWA.out _).mono ?_
            rintro e w11 ⟨rfl, hb10⟩
            have HF2 := Lib.hid (HF.out.trans (hb10.mono HF.out.size))
            clear hb10 HF
            go_wp2_with fail
            go_ret
            exact ⟨rfl, HF2.out⟩
end Go.Proofs.Ytjpnpaacekdeeaa
