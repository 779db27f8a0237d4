/-
  The walk of RttSteady.
-/
import Derived.Test.YtogjamnfgojcbaaGuess
import Derived.Test.YtogjamnfgojcbaaWithin
import Derived.IntWalk
import Derived.Deep.LoopGhost
namespace Go.Proofs.Ytogjamnfgojcbaa
open Go.RowKit

/-- Behind j Samples of n, all the same, upon New(7). -/
def Stead (n : Int) (j : Nat) (g : Gs) : Prop := (j = 0 ∧ g = Gs.new 7) ∨ (1 ≤ j ∧ g.ok ∧ g.late = 0 ∧ g.sm = true ∧ g.mean = n ∧ 2 * g.spread ≤ n ∧ g.spread ≤ max 0 (20 - (j : Int)))

theorem Stead.ok {n : Int} {j : Nat} {g : Gs} (h : Stead n j g) : g.ok := by
  rcases h with ⟨_, rfl⟩ | ⟨_, h, _⟩
  · exact Gs.new_ok 7
  · exact h
theorem Stead.next {n : Int} {j : Nat} {g : Gs} (h0 : 0 ≤ n) (h1 : n < 40) (h : Stead n j g) : Stead n (j + 1) (g.sample n) := by
  have hk := Gs.sample_ok h.ok n
  have hc : clampI n 0 1048576 = n := clampI_eq h0 (by omega)
  refine .inr ⟨by omega, hk, rfl, rfl, ?_, ?_, ?_⟩
  all_goals
    simp only [Gs.sample, hc]
    rcases h with ⟨_, rfl⟩ | ⟨_, ho, hl, hs, hm, hp, hq⟩
    · simp only [Gs.mn, Gs.sp, Gs.new, Bool.false_eq_true, if_false]
      try omega
    · have := ho.s1
      simp only [Gs.mn, Gs.sp, hs, if_true, hm]
      omega
theorem Stead.wait {n : Int} {j : Nat} {g : Gs} (h0 : 0 ≤ n) (h1 : n < 40) (h : Stead n j g) (hj : 1 ≤ j) : g.mean = n ∧ n < g.wait ∧ g.wait ≤ min (n + max 1 (2 * n)) 64 ∧ (40 ≤ j → g.wait = n + 1) := by
  rcases h with ⟨h, _⟩ | ⟨_, ho, hl, hs, hm, hp, hq⟩
  · omega
  · rw [Gs.wait_now ho hl]
    have := ho.s1
    refine ⟨hm, ?_⟩
    simp only [Gs.base, hs, if_true, hm, clampI]
    omega

set_option maxRecDepth 100000 in
set_option maxHeartbeats 4000000 in
theorem rttSteady_walk (a0 a1 : Int) (w : World) (_ : (Lit.int .i64 a0).wf = true) (_ : (Lit.int .i64 a1).wf = true) :
    Calls Try.prog 3 #[.int .i64 a0, .int .i64 a1] w fun e w' => e = .returned (.bool true) ∧ Below w.heap.size w w' := by
  have HN := Lib.hid (newgu_any 7 w)
  obtain ⟨b, hb⟩ : ∃ b, w.heap.size = b := ⟨_, rfl⟩
  rw [hb] at HN ⊢
  have HB := Lib.hid hb
  clear hb
  have hw := within_any a0 40 w (by decide) (by decide)
  have n0 : 0 ≤ a0 % 40 := Int.emod_nonneg a0 (by decide)
  have n1 : a0 % 40 < 40 := Int.emod_lt_of_pos a0 (by decide)
  obtain ⟨n, hn⟩ : ∃ n, a0 % 40 = n := ⟨_, rfl⟩
  rw [hn] at hw n0 n1
  have HW := Lib.hid hw
  clear hw hn
  go_enter Try.func3, Try.ntmps3
  go_wp2_with fail
  refine HW.out.mono ?_
  rintro e w' ⟨rfl, rfl⟩
  go_wp2_with fail
  refine HN.out.mono ?_
  rintro e w1 ⟨rfl, h1, b1, z1⟩
  have H1 := Lib.hid h1
  have B1 := Lib.hid b1
  clear h1 b1 z1 HN HW
  go_wp2_with fail
  go_loopw [6] (fun i wr => ∃ (j : Nat) (g : Gs), j ≤ 40 ∧ i = .int .i64 (j : Nat) ∧ Hid (Stead n j g) ∧ Hid (Gu wr b g) ∧ Hid (Below b w wr)) (fun i _ => 40 - (intOf i).toNat)
  case atStart => exact ⟨0, Gs.new 7, by omega, rfl, Lib.hid (.inl ⟨rfl, rfl⟩), H1, B1⟩
  case round =>
    obtain ⟨j, g, hj, rfl, hst, hm, hbl⟩ := hrel
    by_cases hlt : j < 40
    · have q3 : (j : Int) < 40 := by omega
      have q4 : (0 : Int) ≤ (j : Int) := by omega
      have HS := Lib.hid (sample_any n hm.out hst.out.ok)
      have hst' := Lib.hid (hst.out.next n0 n1)
      obtain ⟨g', hg'⟩ : ∃ g', g.sample n = g' := ⟨_, rfl⟩
      rw [hg'] at HS hst'
      clear hg'
      go_wp2_with fail
      refine HS.out.mono ?_
      rintro e w2 ⟨rfl, h2, g2⟩
      have H2 := Lib.hid h2
      have B2 := Lib.hid (show Below b w w2 by
        have := hbl.out
        rw [← HB.out] at this
        rw [← HB.out]
        exact own_grown this g2 (by have := HB.out; omega))
      clear h2 g2 hm hbl HS
      obtain ⟨r1, r2, r3, _⟩ := hst'.out.wait n0 n1 (by omega)
      have HM := Lib.hid (mean_any H2.out)
      have HQ := Lib.hid (wait_any H2.out hst'.out.ok)
      have HQ2 := Lib.hid (fun k => wait_any (H2.out.drewN k) hst'.out.ok)
      rw [r1] at HM
      obtain ⟨K, hK⟩ : ∃ K, g'.wait = K := ⟨_, rfl⟩
      rw [hK] at r2 r3 HQ HQ2
      have hmax := run_max2 1 (2 * n) _ rfl
      obtain ⟨M, hM⟩ : ∃ M, max 1 (2 * n) = M := ⟨_, rfl⟩
      rw [hM] at hmax r3
      have m1 : 1 ≤ M := by omega
      have m2 : M ≤ 80 := by omega
      have hmin := run_min2 (n + M) 64 _ rfl
      obtain ⟨L, hL⟩ : ∃ L, min (n + M) 64 = L := ⟨_, rfl⟩
      rw [hL] at hmin r3
      clear r1 hK hM hL
      have d1 : decide (K ≤ n) = false := by simp; omega
      have d2 : decide (K > L) = false := by simp; omega
      go_wp2_with fail
      refine HM.out.mono ?_
      rintro e w3 ⟨rfl, rfl⟩
      go_wp2_with fail
      refine HQ.out.mono ?_
      rintro e w4 ⟨rfl, k, rfl⟩
      by_cases hz : j = 0
      · subst hz
        go_wp2_with fail
        go_roundw
        case rel => exact ⟨1, g', by omega, rfl, hst', Lib.hid (H2.out.drewN k), Lib.hid (below_drewN' B2.out k)⟩
        case measure => simp [intOf]
      · have q5 : (0 : Int) < (j : Int) := by omega
        go_wp2_with fail
        refine (HQ2.out k).mono ?_
        rintro e w5 ⟨rfl, k2, rfl⟩
        go_wp2_with fail
        go_roundw
        case rel => exact ⟨j + 1, g', by omega, by go_num, hst', Lib.hid (H2.out.drewN (k + k2)), Lib.hid (below_drewN' B2.out (k + k2))⟩
        case measure => simp [intOf]; omega
    · obtain rfl : j = 40 := by omega
      clear hlt hj
      have HOK := Lib.hid hst.out.ok
      obtain ⟨e1, _, _, e2⟩ := hst.out.wait n0 n1 (by omega)
      replace e2 := e2 (by omega)
      have HQ := Lib.hid (wait_any hm.out HOK.out)
      rw [e2] at HQ
      have HM := Lib.hid e1
      have HWT := Lib.hid e2
      have HSM := Lib.hid (show g.sm = true from by rcases hst.out with ⟨h, _⟩ | ⟨_, _, _, h, _⟩ <;> first | omega | exact h)
      clear e1 e2 hst
      go_wp2_with fail
      refine HQ.out.mono ?_
      rintro e w2 ⟨rfl, k, rfl⟩
      have HC := Lib.hid (clonegu_any (hm.out.drewN k))
      have B2 := Lib.hid (below_drewN' hbl.out k)
      have H2 := Lib.hid (hm.out.drewN k)
      obtain ⟨W, hW⟩ : ∃ W, wr.drewN k = W := ⟨_, rfl⟩
      rw [hW] at HC B2 H2
      have hbW := H2.out.lt
      obtain ⟨c, hc⟩ : ∃ c, W.heap.size = c := ⟨_, rfl⟩
      rw [hc] at HC hbW
      have HCS := Lib.hid hc
      clear hm hbl hc
      go_wp2_with fail
      clear hW
      refine HC.out.mono ?_
      rintro e w3 ⟨rfl, h3, b3, z3⟩
      have H3 := Lib.hid h3
      have HB3 := Lib.hid (show Below b w w3 from by
        rw [← HCS.out] at b3
        have hs := B2.out.size
        rw [← HB.out] at B2
        rw [← HB.out]
        exact B2.out.trans (b3.mono (by rw [HB.out] at *; exact hs)))
      have HG3 := Lib.hid (show Gu w3 b g from by rw [← HCS.out] at b3; exact H2.out.later b3)
      clear h3 b3 z3 H2 B2 HC HCS HQ
      have hw9 := Lib.hid (fun w => within_any a1 9 w (by decide) (by decide))
      have k0 : 0 ≤ a1 % 9 := Int.emod_nonneg a1 (by decide)
      have k1 : a1 % 9 < 9 := Int.emod_lt_of_pos a1 (by decide)
      obtain ⟨m, hm⟩ := Int.eq_ofNat_of_zero_le k0
      rw [hm] at hw9 k0 k1
      have HMM := Lib.hid hm
      clear hm
      go_wp2_with fail
      go_loopw [8] (fun i wr => ∃ (j : Nat) (gc : Gs), j ≤ 1 + m ∧ i = .int .i64 (j : Nat) ∧ Hid (gc.ok ∧ gc.sm = true ∧ gc.mean = n) ∧ Hid (Gu wr c gc) ∧ Hid (Gu wr b g) ∧ Hid (Below b w wr)) (fun i _ => 1 + m - (intOf i).toNat)
      case atStart => exact ⟨0, g, by omega, rfl, Lib.hid ⟨HOK.out, HSM.out, HM.out⟩, H3, HG3, HB3⟩
      case round =>
        obtain ⟨j, gc, hj, rfl, hgc, h5, h6, h7⟩ := hrel
        by_cases hlt : j < 1 + m
        · have q3 : (j : Int) < 1 + (m : Int) := by omega
          have HL := Lib.hid (late_any h5.out hgc.out.1)
          have HOK' := Lib.hid (Gs.later_ok hgc.out.1)
          obtain ⟨g', hg'⟩ : ∃ g', gc.later = g' := ⟨_, rfl⟩
          have hp : g'.sm = true ∧ g'.mean = n := by rw [← hg']; exact hgc.out.2
          rw [hg'] at HL HOK'
          have HP := Lib.hid hp
          clear hg' hp
          go_wp2_with fail
          refine (hw9.out _).mono ?_
          rintro e w5 ⟨rfl, rfl⟩
          go_wp2_with fail
          refine HL.out.mono ?_
          rintro e w6 ⟨rfl, h8, g8⟩
          have H8 := Lib.hid h8
          have H9 := Lib.hid (h6.out.other (show b ≠ c by omega) g8)
          have B9 := Lib.hid (show Below b w w6 from by
            have := h7.out
            rw [← HB.out] at this
            rw [← HB.out]
            exact own_grown this g8 (by have := HB.out; omega))
          clear h8 g8 h5 h6 h7 HL
          go_wp2_with fail
          go_roundw
          case rel => exact ⟨j + 1, g', by omega, by go_num, Lib.hid ⟨HOK'.out, HP.out⟩, H8, H9, B9⟩
          case measure => simp [intOf]; omega
        · obtain rfl : j = 1 + m := by omega
          clear hlt hj
          have hcl : clampI (-5 - n) 0 1048576 = 0 := clampI_lo (by omega) (by decide)
          have HS := Lib.hid (sample_any (-5 - n) h5.out hgc.out.1)
          have hmn : (gc.sample (-5 - n)).mean = 7 * n / 8 := by
            obtain ⟨_, hs, hm⟩ := hgc.out
            simp only [Gs.sample, Gs.mn, hcl, hs, if_true, hm, Int.add_zero]
          obtain ⟨g', hg'⟩ : ∃ g', gc.sample (-5 - n) = g' := ⟨_, rfl⟩
          rw [hg'] at HS hmn
          have HMC := Lib.hid hmn
          clear hg' hmn hcl
          have q3 : (((1 + m : Nat) : Int)) = 1 + (m : Int) := by omega
          rw [q3]
          clear q3
          go_wp2_with fail
          refine (hw9.out _).mono ?_
          rintro e w5 ⟨rfl, rfl⟩
          go_wp2_with fail
          refine HS.out.mono ?_
          rintro e w6 ⟨rfl, h8, g8⟩
          have H8 := Lib.hid h8
          have H9 := Lib.hid (h6.out.other (show b ≠ c by omega) g8)
          have B9 := Lib.hid (show Below b w w6 from by
            have := h7.out
            rw [← HB.out] at this
            rw [← HB.out]
            exact own_grown this g8 (by have := HB.out; omega))
          clear h8 g8 h5 h6 h7 HS
          have HN := Lib.hid (newgu_any 7 w6)
          obtain ⟨d, hd⟩ : ∃ d, w6.heap.size = d := ⟨_, rfl⟩
          have hcd : c < d := by rw [← hd]; exact H8.out.lt
          rw [hd] at HN
          have HD := Lib.hid hd
          clear hd
          go_wp2_with fail
          refine HN.out.mono ?_
          rintro e w7 ⟨rfl, h10, b10, z10⟩
          have H10 := Lib.hid h10
          rw [← HD.out] at b10
          have HC10 := Lib.hid (H8.out.later b10)
          have HB10 := Lib.hid (H9.out.later b10)
          have BB10 := Lib.hid (show Below b w w7 from by
            have hs := B9.out.size
            have := B9.out
            rw [← HB.out] at this
            rw [← HB.out]
            exact this.trans (b10.mono hs))
          clear h10 b10 z10 H8 H9 B9 HN
          have kh := Gs.sample_ok (Gs.new_ok 7) 1048581
          have Wh : ((Gs.new 7).sample 1048581).wait = 64 := by decide
          have Mh : ((Gs.new 7).sample 1048581).mean = 1048576 := by decide
          have HS := Lib.hid (sample_any 1048581 H10.out (Gs.new_ok 7))
          obtain ⟨gh, hgh⟩ : ∃ gh, (Gs.new 7).sample 1048581 = gh := ⟨_, rfl⟩
          rw [hgh] at kh Wh Mh HS
          have HKH := Lib.hid kh
          have HWH := Lib.hid Wh
          have HMH := Lib.hid Mh
          clear hgh kh Wh Mh
          go_wp2_with fail
          refine HS.out.mono ?_
          rintro e w8 ⟨rfl, h11, g11⟩
          have H11 := Lib.hid h11
          have HC11 := Lib.hid (HC10.out.other (show c ≠ d by omega) g11)
          have HB11 := Lib.hid (HB10.out.other (show b ≠ d by omega) g11)
          have BB11 := Lib.hid (show Below b w w8 from by
            have := BB10.out
            rw [← HB.out] at this
            rw [← HB.out]
            exact own_grown this g11 (by have := HB.out; omega))
          clear h11 g11 H10 HC10 HB10 BB10 HS
          have HQ := Lib.hid (wait_any HB11.out HOK.out)
          rw [HWT.out] at HQ
          go_wp2_with fail
          refine HQ.out.mono ?_
          rintro e w9 ⟨rfl, k9, rfl⟩
          have HQ1 := Lib.hid (mean_any (HC11.out.drewN k9))
          rw [HMC.out] at HQ1
          go_wp2_with fail
          refine HQ1.out.mono ?_
          rintro e w10 ⟨rfl, rfl⟩
          have HQ2 := Lib.hid (mean_any (H11.out.drewN k9))
          rw [HMH.out] at HQ2
          go_wp2_with fail
          refine HQ2.out.mono ?_
          rintro e w11 ⟨rfl, rfl⟩
          have HQ3 := Lib.hid (wait_any (H11.out.drewN k9) HKH.out)
          rw [HWH.out] at HQ3
          go_wp2_with fail
          refine HQ3.out.mono ?_
          rintro e w12 ⟨rfl, k12, rfl⟩
          go_wp2_with fail
          refine (wakesG_any _).mono ?_
          rintro e w13 ⟨rfl, b13⟩
          go_wp2
          go_ret
          refine ⟨rfl, ?_⟩
          have b14 := below_drewN' BB11.out (k9 + k12)
          rw [← HB.out] at b14
          rw [← HB.out]
          exact b14.trans (b13.mono b14.size)
end Go.Proofs.Ytogjamnfgojcbaa
