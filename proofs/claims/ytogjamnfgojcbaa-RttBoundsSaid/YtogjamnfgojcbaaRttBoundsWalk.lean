/-
  The walk of RttBounds.
-/
import Derived.Test.YtogjamnfgojcbaaGuess
import Derived.Test.YtogjamnfgojcbaaWithin
import Derived.IntWalk
import Derived.Deep.LoopGhost
namespace Go.Proofs.Ytogjamnfgojcbaa
open Go.RowKit

/-- Behind j Samples below 40, none late, upon New(F). -/
structure Sampled (F : Int) (j : Nat) (g : Gs) : Prop where
  ok : g.ok
  late : g.late = 0
  none : j = 0 → g = Gs.new F
  some : 0 < j → g.sm = true
  m : g.mean < 40

theorem Sampled.next {F n : Int} {j : Nat} {g : Gs} (h : Sampled F j g) (h0 : 0 ≤ n) (h1 : n < 40) :
    Sampled F (j + 1) (g.sample n) ∧ (j = 0 → (g.sample n).mean = n) ∧ (g.sample n).mean ≤ max g.mean n ∧ min g.mean n - 1 ≤ (g.sample n).mean ∧ 0 ≤ (g.sample n).mean ∧ min ((g.sample n).mean + 1) 64 ≤ (g.sample n).wait := by
  have hk := Gs.sample_ok h.ok n
  have hc : clampI n 0 1048576 = n := clampI_eq h0 (by omega)
  have hmn : (g.sample n).mean = g.mn n := by simp only [Gs.sample, hc]
  have hs : (g.sample n).sm = true := rfl
  have hg := h.m
  have hm0 := h.ok.m1
  have hm : (j = 0 → g.mn n = n) ∧ g.mn n ≤ max g.mean n ∧ min g.mean n - 1 ≤ g.mn n ∧ 0 ≤ g.mn n := by
    by_cases hj : j = 0
    · obtain rfl := h.none hj
      have hz : (Gs.new F).mean = 0 := rfl
      have hn : (Gs.new F).mn n = n := rfl
      rw [hn, hz]
      exact ⟨fun _ => rfl, by omega, by omega, h0⟩
    · simp only [Gs.mn, h.some (by omega), if_true]
      omega
  have hw : min ((g.sample n).mean + 1) 64 ≤ (g.sample n).wait := by
    rw [Gs.wait_now hk rfl]
    have := hk.s1
    have := hk.m1
    unfold Gs.base clampI
    rw [hs, if_pos rfl]
    omega
  rw [hmn] at hw ⊢
  exact ⟨⟨hk, rfl, fun h => by omega, fun _ => rfl, by rw [hmn]; omega⟩, hm.1, hm.2.1, hm.2.2.1, hm.2.2.2, hw⟩

theorem new_wait {F : Int} (h0 : 1 ≤ F) (h1 : F ≤ 64) : (Gs.new F).wait = F := by
  rw [Gs.wait_now (Gs.new_ok F) rfl]
  exact clampI_eq h0 h1

set_option maxRecDepth 100000 in
set_option maxHeartbeats 4000000 in
theorem rttBounds_walk (a0 : Int) (A : Option Addr) (n c : Nat) (xs : List Int) (a2 : Int) (w : World) (_ : (Lit.int .i64 a0).wf = true) (ha : ArgI .i64 8 w A n c xs) (_ : (Lit.int .i64 a2).wf = true) :
    Calls Try.prog 4 #[.int .i64 a0, .slice A n c, .int .i64 a2] w fun e w' => e = .returned (.bool true) ∧ Below w.heap.size w w' := by
  have r1 := ha.reach
  have l1 := ha.le
  have HA := Lib.hid ha
  clear ha
  have hw := within_any a0 64 w (by decide) (by decide)
  have n0 : 0 ≤ a0 % 64 := Int.emod_nonneg a0 (by decide)
  have n1 : a0 % 64 < 64 := Int.emod_lt_of_pos a0 (by decide)
  obtain ⟨f, hf⟩ : ∃ f, a0 % 64 = f := ⟨_, rfl⟩
  rw [hf] at hw n0 n1
  have HW := Lib.hid hw
  clear hw hf
  obtain ⟨F, hF⟩ : ∃ F, 1 + f = F := ⟨_, rfl⟩
  have HF := Lib.hid hF
  have F1 : 1 ≤ F := by omega
  have F2 : F ≤ 64 := by omega
  have hnw := new_wait F1 F2
  have HN := Lib.hid (newgu_any F w)
  obtain ⟨b, hb⟩ : ∃ b, w.heap.size = b := ⟨_, rfl⟩
  rw [hb] at HN
  have HB := Lib.hid hb
  clear hb
  go_enter Try.func4, Try.ntmps4
  go_wp2_with fail
  refine HW.out.mono ?_
  rintro e w' ⟨rfl, rfl⟩
  go_wp2_with fail
  refine HN.out.mono ?_
  rintro e w1 ⟨rfl, h1, b1, z1⟩
  have H1 := Lib.hid h1
  have B1 := Lib.hid (show Below w.heap.size w w1 by rw [HB.out]; exact b1)
  clear h1 b1 z1 HN HW
  have HQ := Lib.hid (wait_any H1.out (Gs.new_ok F))
  rw [hnw] at HQ
  clear hnw
  go_wp2_with fail
  refine HQ.out.mono ?_
  rintro e w2 ⟨rfl, k, rfl⟩
  have HM := Lib.hid (mean_any (H1.out.drewN k))
  rw [show (Gs.new F).mean = 0 from rfl] at HM
  go_wp2_with fail
  refine HM.out.mono ?_
  rintro e w3 ⟨rfl, rfl⟩
  clear HQ HM hF
  go_wp2_with fail
  go_loopw [8] (fun i wr => ∃ (j : Nat) (g : Gs), j ≤ n ∧ j ≤ 20 ∧ i = .int .i64 (j : Nat) ∧ Hid (Sampled F j g) ∧ Hid (Gu wr b g) ∧ Hid (Below w.heap.size w wr)) (fun i _ => 20 - (intOf i).toNat)
  case atStart => exact ⟨0, Gs.new F, by omega, by omega, rfl, Lib.hid ⟨Gs.new_ok F, rfl, fun _ => rfl, fun h => by omega, show (0 : Int) < 40 by decide⟩, Lib.hid (H1.out.drewN k), Lib.hid (below_drewN' B1.out k)⟩
  case round =>
    obtain ⟨j, g, hj, hj2, rfl, hst, hm, hbl⟩ := hrel
    by_cases hlt : j < n ∧ j < 20
    · obtain ⟨hlt1, hlt2⟩ := hlt
      have q1 : decide ((j : Int) < (n : Int)) = true := by simp; omega
      have q2 : decide (j < n) = true := by simp; omega
      have q3 : (j : Int) < 20 := by omega
      have q4 : (0 : Int) ≤ (j : Int) := by omega
      obtain ⟨b', off', rfl, hc⟩ := (HA.out.rd.later hbl.out).some_ (by rw [HA.out.len]; omega)
      have c1 := hc j (by rw [HA.out.len]; exact hlt1)
      obtain ⟨x, hx⟩ : ∃ x, xs.getD j 0 = x := ⟨_, rfl⟩
      rw [hx] at c1
      clear hx hc
      have x0 : 0 ≤ x % 40 := Int.emod_nonneg x (by decide)
      have x1 : x % 40 < 40 := Int.emod_lt_of_pos x (by decide)
      have HX := Lib.hid (fun w => within_any x 40 w (by decide) (by decide))
      obtain ⟨y, hy⟩ : ∃ y, x % 40 = y := ⟨_, rfl⟩
      rw [hy] at HX x0 x1
      clear hy
      obtain ⟨hst', e1, e2, e3, e4, e5⟩ := hst.out.next x0 x1
      have HM := Lib.hid (mean_any hm.out)
      have HS := Lib.hid (sample_any y hm.out hst.out.ok)
      have was0 := hst.out.ok.m1
      have was1 := hst.out.m
      obtain ⟨was, hwas⟩ : ∃ was, g.mean = was := ⟨_, rfl⟩
      rw [hwas] at HM e2 e3 was0 was1
      obtain ⟨g', hg'⟩ : ∃ g', g.sample y = g' := ⟨_, rfl⟩
      rw [hg'] at HS hst' e1 e2 e3 e4 e5
      have HST := Lib.hid hst'
      have v1 := (Gs.wait_in hst'.ok).1
      have v2 := (Gs.wait_in hst'.ok).2
      clear hg' hst' hwas
      go_wp2_with fail
      refine (HX.out _).mono ?_
      rintro e w' ⟨rfl, rfl⟩
      go_wp2_with fail
      refine HM.out.mono ?_
      rintro e w' ⟨rfl, rfl⟩
      clear c1
      go_wp2_with fail
      refine HS.out.mono ?_
      rintro e w2 ⟨rfl, h2, g2⟩
      have H2 := Lib.hid h2
      have B2 := Lib.hid (own_grown hbl.out g2 (by rw [HB.out]; exact Nat.le_refl _))
      clear h2 g2 hm hbl HS HM HX
      have HM := Lib.hid (mean_any H2.out)
      have HQ0 := Lib.hid (wait_any H2.out HST.out.ok)
      have HQ := Lib.hid (fun k => wait_any (H2.out.drewN k) HST.out.ok)
      obtain ⟨m, hm⟩ : ∃ m, g'.mean = m := ⟨_, rfl⟩
      obtain ⟨K, hK⟩ : ∃ K, g'.wait = K := ⟨_, rfl⟩
      rw [hm] at HM e1 e2 e3 e4 e5
      rw [hK] at HQ0 v1 v2 e5
      simp only [hK] at HQ
      clear hm hK
      have hmax := run_max2 was y _ rfl
      have hmin := run_min2 was y _ rfl
      have hmin2 := run_min2 (m + 1) 64 _ rfl
      have m40 : m < 40 := by omega
      obtain ⟨X, hX⟩ : ∃ X, max was y = X := ⟨_, rfl⟩
      obtain ⟨N, hN⟩ : ∃ N, min was y = N := ⟨_, rfl⟩
      obtain ⟨L, hL⟩ : ∃ L, min (m + 1) 64 = L := ⟨_, rfl⟩
      have N0 : 0 ≤ N := by omega
      have N1 : N < 40 := by omega
      rw [hX] at hmax e2
      rw [hN] at hmin e3
      rw [hL] at hmin2 e5
      clear hX hN hL
      go_wp2_with fail
      refine HM.out.mono ?_
      rintro e w' ⟨rfl, rfl⟩
      clear HM
      have d1 : decide (m > X) = false := by simp; omega
      have d2 : decide (m < N - 1) = false := by simp; omega
      have d3 : decide (K < 1) = false := by simp; omega
      have d4 : decide (K > 64) = false := by simp; omega
      have d5 : decide (K < L) = false := by simp; omega
      by_cases hz : j = 0
      · obtain rfl := e1 hz
        subst hz
        go_wp2_with fail
        refine HQ0.out.mono ?_
        rintro e w3 ⟨rfl, k1, rfl⟩
        go_wp2_with fail
        refine (HQ.out k1).mono ?_
        rintro e w4 ⟨rfl, k2, rfl⟩
        go_wp2_with fail
        refine (HQ.out (k1 + k2)).mono ?_
        rintro e w5 ⟨rfl, k3, rfl⟩
        go_wp2_with fail
        go_roundw
        case rel => exact ⟨1, g', by omega, by omega, rfl, HST, Lib.hid (H2.out.drewN (k1 + k2 + k3)), Lib.hid (below_drewN' B2.out (k1 + k2 + k3))⟩
        case measure => simp [intOf]
      · have hz2 : ((j : Int) == 0) = false := by simp; omega
        go_wp2_with fail
        refine HQ0.out.mono ?_
        rintro e w3 ⟨rfl, k1, rfl⟩
        go_wp2_with fail
        refine (HQ.out k1).mono ?_
        rintro e w4 ⟨rfl, k2, rfl⟩
        go_wp2_with fail
        refine (HQ.out (k1 + k2)).mono ?_
        rintro e w5 ⟨rfl, k3, rfl⟩
        go_wp2_with fail
        go_roundw
        case rel => exact ⟨j + 1, g', by omega, by omega, by go_num, HST, Lib.hid (H2.out.drewN (k1 + k2 + k3)), Lib.hid (below_drewN' B2.out (k1 + k2 + k3))⟩
        case measure => simp [intOf]; omega
    · have HST := Lib.hid hst.out.ok
      have HLT := Lib.hid hst.out.late
      have HQ := Lib.hid (wait_any hm.out HST.out)
      have v1 := (Gs.wait_in HST.out).1
      have v2 := (Gs.wait_in HST.out).2
      have hk9 := Lib.hid (fun w => within_any a2 9 w (by decide) (by decide))
      have k0 : 0 ≤ a2 % 9 := Int.emod_nonneg a2 (by decide)
      have k1 : a2 % 9 < 9 := Int.emod_lt_of_pos a2 (by decide)
      obtain ⟨m, hm9⟩ := Int.eq_ofNat_of_zero_le k0
      rw [hm9] at hk9 k0 k1
      obtain ⟨K, hK⟩ : ∃ K, g.wait = K := ⟨_, rfl⟩
      rw [hK] at HQ v1 v2
      have HK := Lib.hid hK
      have hq : ¬ (j : Int) < (n : Int) ∨ ((j : Int) < (n : Int) ∧ ¬ (j : Int) < 20) := by omega
      clear hlt hj hj2 hst hK hm9
      rcases hq with hq | ⟨hq, hq2⟩
      all_goals
        go_wp2_with fail
        refine HQ.out.mono ?_
        rintro e w2 ⟨rfl, kk, rfl⟩
        clear HQ
        have H2 := Lib.hid (hm.out.drewN kk)
        have B2 := Lib.hid (below_drewN' hbl.out kk)
        obtain ⟨W, hW⟩ : ∃ W, wr.drewN kk = W := ⟨_, rfl⟩
        rw [hW] at H2 B2
        clear hm hbl
        go_wp2_with fail
        clear hW
        go_loopw [12, 13] (fun v i wr => ∃ (j : Nat) (q : Int) (gl : Gs), j ≤ 1 + m ∧ i = .int .i64 (j : Nat) ∧ v = .int .i64 q ∧ 1 ≤ q ∧ q ≤ 64 ∧ Hid (gl.ok ∧ gl.late = min j 6 ∧ (j ≤ 6 → gl.wait = q)) ∧ Hid (Gu wr b gl) ∧ Hid (Below w.heap.size w wr)) (fun _ i _ => 1 + m - (intOf i).toNat)
        case atStart => exact ⟨0, K, g, by omega, rfl, rfl, v1, v2, Lib.hid ⟨HST.out, by rw [HLT.out]; rfl, fun _ => HK.out⟩, H2, B2⟩
        case round =>
          obtain ⟨t, q, gl, hj, rfl, rfl, q0, q64, hgl, h5, h7⟩ := hrel
          by_cases hlt : t < 1 + m
          · have q3 : (t : Int) < 1 + (m : Int) := by omega
            have HL := Lib.hid (late_any h5.out hgl.out.1)
            have hok' := Gs.later_ok hgl.out.1
            have hlt' : gl.later.late = min (t + 1) 6 := by
              have := hgl.out.2.1
              simp only [Gs.later]
              omega
            have hmin := run_min2 (2 * q) 64 _ rfl
            have hwt' : t < 6 → gl.later.wait = min (2 * q) 64 := fun h => by
              rw [Gs.wait_later hgl.out.1 (by have := hgl.out.2.1; omega), hgl.out.2.2 (by omega)]
            obtain ⟨q', hq'⟩ : ∃ q', min (2 * q) 64 = q' := ⟨_, rfl⟩
            have p0 : 1 ≤ q' := by omega
            have p64 : q' ≤ 64 := by omega
            rw [hq'] at hmin hwt'
            obtain ⟨g', hg'⟩ : ∃ g', gl.later = g' := ⟨_, rfl⟩
            rw [hg'] at HL hok' hlt' hwt'
            have HOK' := Lib.hid hok'
            have HLT' := Lib.hid hlt'
            clear hg' hok' hlt' hq'
            go_wp2_with fail
            refine (hk9.out _).mono ?_
            rintro e w5 ⟨rfl, rfl⟩
            go_wp2_with fail
            refine HL.out.mono ?_
            rintro e w6 ⟨rfl, h8, g8⟩
            have H8 := Lib.hid h8
            have B8 := Lib.hid (own_grown h7.out g8 (by rw [HB.out]; exact Nat.le_refl _))
            clear h8 g8 h5 h7 HL
            have HQ0 := Lib.hid (wait_any H8.out HOK'.out)
            have HQ := Lib.hid (fun k => wait_any (H8.out.drewN k) HOK'.out)
            have u1 := (Gs.wait_in HOK'.out).1
            have u2 := (Gs.wait_in HOK'.out).2
            by_cases ht6 : t < 6
            · have ht6' : (t : Int) < 6 := by omega
              have hwq := hwt' ht6
              rw [hwq] at HQ0
              simp only [hwq] at HQ
              have HWQ := Lib.hid hwq
              clear hwt' hwq u1 u2
              go_wp2_with fail
              refine HQ0.out.mono ?_
              rintro e w7 ⟨rfl, k7, rfl⟩
              go_wp2_with fail
              refine (HQ.out k7).mono ?_
              rintro e w8 ⟨rfl, k8, rfl⟩
              go_wp2_with fail
              go_roundw
              case rel => exact ⟨t + 1, q', g', by omega, by go_num, rfl, p0, p64, Lib.hid ⟨HOK'.out, HLT'.out, fun _ => HWQ.out⟩, Lib.hid (H8.out.drewN (k7 + k8)), Lib.hid (below_drewN' B8.out (k7 + k8))⟩
              case measure => simp [intOf]; omega
            · have ht6' : ¬ (t : Int) < 6 := by omega
              clear hwt'
              obtain ⟨K', hK'⟩ : ∃ K', g'.wait = K' := ⟨_, rfl⟩
              rw [hK'] at HQ0 u1 u2
              clear hK'
              go_wp2_with fail
              refine HQ0.out.mono ?_
              rintro e w7 ⟨rfl, k7, rfl⟩
              go_wp2_with fail
              go_roundw
              case rel => exact ⟨t + 1, q', g', by omega, by go_num, rfl, p0, p64, Lib.hid ⟨HOK'.out, HLT'.out, fun h => by omega⟩, Lib.hid (H8.out.drewN k7), Lib.hid (below_drewN' B8.out k7)⟩
              case measure => simp [intOf]; omega
          · obtain rfl : t = 1 + m := by omega
            clear hlt hj
            have q3 : (((1 + m : Nat) : Int)) = 1 + (m : Int) := by omega
            rw [q3]
            clear q3
            have HOK := Lib.hid hgl.out.1
            have HM := Lib.hid (mean_any h5.out)
            obtain ⟨M, hM⟩ : ∃ M, gl.mean = M := ⟨_, rfl⟩
            rw [hM] at HM
            have HS := Lib.hid (sample_any M h5.out HOK.out)
            have HOK' := Lib.hid (Gs.sample_ok HOK.out M)
            obtain ⟨g', hg'⟩ : ∃ g', gl.sample M = g' := ⟨_, rfl⟩
            rw [hg'] at HS HOK'
            clear hM hg' hgl
            go_wp2_with fail
            refine (hk9.out _).mono ?_
            rintro e w5 ⟨rfl, rfl⟩
            go_wp2_with fail
            refine HM.out.mono ?_
            rintro e w' ⟨rfl, rfl⟩
            go_wp2_with fail
            refine HS.out.mono ?_
            rintro e w6 ⟨rfl, h8, g8⟩
            have H8 := Lib.hid h8
            have B8 := Lib.hid (own_grown h7.out g8 (by rw [HB.out]; exact Nat.le_refl _))
            clear h8 g8 h5 h7 HS HM
            have HN1 := Lib.hid (newgu_any 0 w6)
            obtain ⟨d, hd⟩ : ∃ d, w6.heap.size = d := ⟨_, rfl⟩
            rw [hd] at HN1
            have HD := Lib.hid hd
            clear hd
            go_wp2_with fail
            refine HN1.out.mono ?_
            rintro e w7 ⟨rfl, h9, b9, z9⟩
            rw [← HD.out] at b9
            have H9 := Lib.hid h9
            have HB9 := Lib.hid (H8.out.later b9)
            have B9 := Lib.hid (B8.out.trans (b9.mono B8.out.size))
            clear h9 b9 z9 H8 B8 HN1
            have HN2 := Lib.hid (newgu_any 73 w7)
            obtain ⟨d2, hd2⟩ : ∃ d2, w7.heap.size = d2 := ⟨_, rfl⟩
            rw [hd2] at HN2
            have HD2 := Lib.hid hd2
            clear hd2
            go_wp2_with fail
            refine HN2.out.mono ?_
            rintro e w8 ⟨rfl, h10, b10, z10⟩
            rw [← HD2.out] at b10
            have H10 := Lib.hid h10
            have HL10 := Lib.hid (H9.out.later b10)
            have HB10 := Lib.hid (HB9.out.later b10)
            have B10 := Lib.hid (B9.out.trans (b10.mono B9.out.size))
            clear h10 b10 z10 H9 HB9 B9 HN2
            have HQ := Lib.hid (wait_any HB10.out HOK'.out)
            have u2 := (Gs.wait_in HOK'.out).2
            obtain ⟨K', hK'⟩ : ∃ K', g'.wait = K' := ⟨_, rfl⟩
            rw [hK'] at HQ u2
            clear hK'
            go_wp2_with fail
            refine HQ.out.mono ?_
            rintro e w9 ⟨rfl, k9, rfl⟩
            have HQ1 := Lib.hid (wait_any (HL10.out.drewN k9) (Gs.new_ok 0))
            rw [show (Gs.new 0).wait = 1 by decide] at HQ1
            go_wp2_with fail
            refine HQ1.out.mono ?_
            rintro e w10 ⟨rfl, k10, rfl⟩
            have HQ2 := Lib.hid (wait_any (H10.out.drewN (k9 + k10)) (Gs.new_ok 73))
            rw [show (Gs.new 73).wait = 64 by decide] at HQ2
            go_wp2_with fail
            refine HQ2.out.mono ?_
            rintro e w11 ⟨rfl, k11, rfl⟩
            go_wp2_with fail
            refine (wakesG_any _).mono ?_
            rintro e w13 ⟨rfl, b13⟩
            go_wp2
            go_ret
            refine ⟨rfl, ?_⟩
            have b14 := below_drewN' B10.out (k9 + k10 + k11)
            exact b14.trans (b13.mono b14.size)
end Go.Proofs.Ytogjamnfgojcbaa
