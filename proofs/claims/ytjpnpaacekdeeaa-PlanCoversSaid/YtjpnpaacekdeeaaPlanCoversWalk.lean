/-
  The walk of PlanCovers.
-/
import Derived.Test.YtjpnpaacekdeeaaPlanTold
import Derived.Test.YtjpnpaacekdeeaaPlanCovMath
import Derived.Test.YtjpnpaacekdeeaaWithin
namespace Go.Proofs.Ytjpnpaacekdeeaa
open Go.RowKit

set_option maxRecDepth 100000 in
set_option maxHeartbeats 4000000 in
theorem planCovers_walk (a0 : Option Addr) (len0 cap0 : Nat) (z0 : List Int) (a1 a2 a3 : Int) (W : World) (h0 : ArgI .u8 1 W a0 len0 cap0 z0) (_ : (Lit.int .i64 a1).wf = true) (_ : (Lit.int .i64 a2).wf = true) (_ : (Lit.int .i64 a3).wf = true) :
    Calls Try.prog 5 #[.slice a0 len0 cap0, .int .i64 a1, .int .i64 a2, .int .i64 a3] W fun e W' => e = .returned (.bool true) ∧ Below W.heap.size W W' := by
  have hre0 := h0.reach
  have hle0 := h0.le
  have HC0 := Lib.hid (Go.Proofs.Ytjpnpaacekdeeaa.cut_any a0 len0 cap0 80 z0 W h0.len h0.le h0.rd (by omega) (by omega) (by omega))
  obtain ⟨ys, hys⟩ : ∃ xs, z0.take 80 = xs := ⟨_, rfl⟩
  have n1 : ys.length ≤ 80 := by rw [← hys]; exact List.length_take_le _ _
  obtain ⟨N, hyl⟩ : ∃ n, ys.length = n := ⟨_, rfl⟩
  rw [hyl] at n1
  rw [show (80 : Int).toNat = 80 from rfl, hys, hyl] at HC0
  have HYL := Lib.hid hyl
  -- the numbers
  have HW1 := Lib.hid (fun w => within_any a1 20 w (by omega) (by omega))
  obtain ⟨c0, hc1⟩ : ∃ c, a1 % 20 = c := ⟨_, rfl⟩
  have c00 : 0 ≤ c0 ∧ c0 < 20 := by rw [← hc1]; exact ⟨Int.emod_nonneg _ (by omega), Int.emod_lt_of_pos _ (by omega)⟩
  rw [hc1] at HW1
  obtain ⟨C, hC⟩ : ∃ C, 1 + c0 = C := ⟨_, rfl⟩
  have c10 : 1 ≤ C ∧ C ≤ 20 := by omega
  have HWC := Lib.hid (show wrap64 (1 + c0) = C from wrap_at hC (by omega) (by omega))
  have HW3 := Lib.hid (fun w => within_any a3 ((N : Int) + 2) w (by omega) (by omega))
  obtain ⟨K, hK⟩ : ∃ c, a3 % ((N : Int) + 2) = c := ⟨_, rfl⟩
  have K00 : 0 ≤ K ∧ K < (N : Int) + 2 := by rw [← hK]; exact ⟨Int.emod_nonneg _ (by omega), Int.emod_lt_of_pos _ (by omega)⟩
  rw [hK] at HW3
  obtain ⟨E, hE⟩ : ∃ x, ((N : Int) + C - 1).tdiv C = x := ⟨_, rfl⟩
  have hEe : E = ((N : Int) + C - 1) / C := by rw [← hE]; exact Int.tdiv_eq_ediv_of_nonneg (by omega)
  have hE1 : 0 ≤ E := by rw [hEe]; exact Int.ediv_nonneg (by omega) (by omega)
  have hE2 : E ≤ 100 := by have := Int.ediv_le_self C (show 0 ≤ (N : Int) + C - 1 by omega); omega
  have HWR := Lib.hid (show wrap64 ((N : Int) + 1) = (N : Int) + 1 ∧ wrap64 ((N : Int) + 2) = (N : Int) + 2 ∧ wrap64 ((N : Int) + C) = (N : Int) + C ∧ wrap64 ((N : Int) + C - 1) = (N : Int) + C - 1 ∧ wrap64 E = E ∧ ((N : Int) + C - 1).tdiv C = E from ⟨wrap_at rfl (by omega) (by omega), wrap_at rfl (by omega) (by omega), wrap_at rfl (by omega) (by omega), wrap_at rfl (by omega) (by omega), wrap_at rfl (by omega) (by omega), hE⟩)
  obtain ⟨O, hO⟩ : ∃ O : Ou, (⟨100, ys, true, 0⟩ : Ou) = O := ⟨_, rfl⟩
  have o1 : (O.xs.length : Int) = N := by rw [← hO]; simp [hyl]
  have o2 : O.cl = true := by rw [← hO]
  have o3 : O.ak = 0 := by rw [← hO]
  have oT : O.till N = (N : Int) + 1 := by unfold Ou.till; rw [if_pos (by omega), Ou.places_shut o2, o1]
  have hck : chk C = C := by unfold chk; omega
  obtain ⟨O2, hO2⟩ : ∃ x, O.ack K = x := ⟨_, rfl⟩
  have oP : O.places = (N : Int) + 1 := by rw [Ou.places_shut o2, o1]
  have oM : O.may K = true := by unfold Ou.may; rw [oP]; exact decide_eq_true (by omega)
  have p1 : (O2.xs.length : Int) = N := by rw [← hO2, Ou.ack_xs]; exact o1
  have p2 : O2.cl = true := by rw [← hO2, Ou.ack_cl]; exact o2
  have p3 : O2.ak = K := by rw [← hO2]; unfold Ou.ack; rw [oP, if_pos (by omega)]; show max O.ak K = K; omega
  -- a piece more, or none
  have X0 := Lib.hid (show ∀ (k : Nat) (s : Int) ts, InvPc N C k s ts → (s < (N : Int) + 1 → ∃ r, (Pl.mk [] s).next O N C = ⟨s, r, true, ⟨[], r⟩⟩ ∧ 0 ≤ s ∧ s < r ∧ r ≤ (N : Int) + 1 ∧ min r N - s ≤ C ∧ ((N : Int) ≤ r → r = (N : Int) + 1) ∧ InvPc N C (k + 1) r (ts ++ [(s, r)])) ∧ (¬ s < (N : Int) + 1 → (Pl.mk [] s).next O N C = ⟨0, 0, false, ⟨[], s⟩⟩) from fun k s ts hi => by
    have h := Pl.next_new O s N C
    rw [oT, hck] at h
    refine ⟨fun hs => ?_, fun hs => by rw [h, if_neg hs]⟩
    obtain ⟨r, h1, h2⟩ := hi.step O o1 o2 c10 (by omega) hs
    rw [if_pos hs, h1] at h
    exact ⟨r, h, h2⟩)
  have X1 := Lib.hid (show ∀ x, GoodPc N C x → (x.2 ≤ K → (Pl.mk [x] ((N : Int) + 1)).next O2 N C = ⟨0, 0, false, ⟨[], (N : Int) + 1⟩⟩) ∧ (K < x.2 → (Pl.mk [x] ((N : Int) + 1)).next O2 N C = ⟨max x.1 K, x.2, true, ⟨[], (N : Int) + 1⟩⟩) ∧ (Pl.mk [] ((N : Int) + 1)).next O2 N C = ⟨0, 0, false, ⟨[], (N : Int) + 1⟩⟩ from fun x hx => by
    have := next_again O2 N C x hx p1 p2 c10 (by omega)
    rw [p3] at this
    exact this)
  have X2 := Lib.hid (show ∀ x, GoodPc N C x → (Pl.mk [] ((N : Int) + 1)).lost x.1 x.2 = ⟨[x], (N : Int) + 1⟩ from fun x hx => by
    obtain ⟨g1, g2, g3⟩ := hx
    exact lost_one _ _ _ g1 g2 (by omega) (by omega))
  have X3 := Lib.hid (show ∀ k : Nat, max (((N : Int) + C - 1) / C) 1 = (k : Int) → max E 1 = (k : Int) ∧ 1 ≤ k ∧ k ≤ 100 from fun k hk => by rw [← hEe] at hk; omega)
  have HLT := Lib.hid (show ∀ (k : Nat) (s : Int) ts, InvPc N C k s ts → k < 100 from fun k s ts hi => hi.lt c10 (by omega))
  have HDN := Lib.hid (show ∀ (k : Nat) (s : Int) ts, InvPc N C k s ts → ¬ s < (N : Int) + 1 → s = (N : Int) + 1 ∧ max (((N : Int) + C - 1) / C) 1 = (k : Int) from fun k s ts hi hs => hi.done (by omega) hs)
  have HIN := Lib.hid (show InvPc N C 0 0 [] from ⟨rfl, by simp, .inl ⟨by simp, .inl rfl⟩⟩)
  have HO := Lib.hid hO
  have HO2 := Lib.hid hO2
  have HOM := Lib.hid oM
  have HWA := Lib.hid wakesP_any
  have HNN := Lib.hid n1
  have hCz : ¬ (C = 0) := by omega
  have HCC := Lib.hid c10
  clear h0 hys hyl hc1 c00 hC hK K00 hE hEe hE1 hE2 hO o1 o2 o3 oT hck hO2 oP oM p1 p2 p3 n1 hre0 hle0 c10
  go_enter Try.func5, Try.ntmps5
  go_wp2_with fail
  refine HC0.out.mono ?_
  rintro e w2 ⟨A1', c1, rfl, ho1, hb2⟩
  have HO1 := Lib.hid ho1
  have HB2 := Lib.hid hb2
  clear HC0 ho1 hb2
  go_wp2_with fail
  refine (HW1.out _).mono ?_
  rintro e w' ⟨rfl, rfl⟩
  go_wp2_with fail
  try rw [HWC.out]
  obtain ⟨b, hb⟩ : ∃ b, w2.heap.size = b := ⟨_, rfl⟩
  have HN1 := newplan_any w2
  rw [hb] at HN1
  have HBB := Lib.hid hb
  clear hb
  refine HN1.mono ?_
  rintro e w3 ⟨rfl, h3, b3, _⟩
  rw [← HBB.out] at h3 b3
  have H3 := Lib.hid h3
  have HO3 := Lib.hid (HO1.out.later b3)
  have HB3 := Lib.hid b3
  clear h3 b3 HO1 HN1
  go_wp2_with fail
  obtain ⟨po, hpo⟩ : ∃ b, w3.heap.size = b := ⟨_, rfl⟩
  have HN1 := newout_any 100 w3
  rw [hpo] at HN1
  have HPO := Lib.hid hpo
  clear hpo
  refine HN1.mono ?_
  rintro e w4 ⟨rfl, h4, b4, _⟩
  rw [← HPO.out] at h4 b4
  have h4' := PO.new H3.out HB3.out h4 b4
  rw [HPO.out, HBB.out] at h4'
  have H4 := Lib.hid h4'
  have HO4 := Lib.hid (HO3.out.later b4)
  have HWI := Lib.hid (H4.out.write A1' N c1 ys HYL.out HO4.out.rd HO4.out.cap (by have := HNN.out; omega) N (by rw [show (Ou.new 100).room = 100 from by decide]; have := HNN.out; omega))
  rw [show (Ou.new 100).more (ys.take N) = ⟨100, ys, false, 0⟩ from by rw [List.take_of_length_le (by rw [HYL.out]; exact Nat.le_refl _)]; rfl] at HWI
  clear h4 b4 h4' H3 HB3 HN1 HO3
  go_wp2_with fail
  refine HWI.out.mono ?_
  rintro e w5 ⟨rfl, vo, h5, _⟩
  have H5 := Lib.hid h5
  clear h5 HWI H4 HO4
  go_wp2_with fail
  refine H5.out.close.mono ?_
  rintro e w6 ⟨rfl, h6, _⟩
  rw [show (Ou.shut ⟨100, ys, false, 0⟩) = O from HO.out] at h6
  have H6 := Lib.hid (PT.start h6)
  clear h6 H5
  go_wp2_with fail
  go_loopw [11, 12, 13] (fun a tv i wr => ∃ (k : Nat) (s : Int) (v : Value) (A : Option Addr) (c : Nat) (ts : List (Int × Int)), i = .int .i64 k ∧ a = .int .i64 s ∧ tv = .slice A k c ∧ Hid (InvPc N C k s ts) ∧ Hid (PT w2 wr (b + 1) b v ⟨[], s⟩ po vo O tv ts)) (fun _ _ i _ => 100 - (intOf i).toNat)
  case atStart => exact ⟨0, 0, _, none, 0, [], rfl, rfl, rfl, HIN, H6⟩
  case round =>
    obtain ⟨k, s, v, A, c, ts, rfl, rfl, rfl, hi, hp⟩ := hrel
    have hk100 := HLT.out _ _ _ hi.out
    have i1 : (k : Int) < 100 := by omega
    by_cases hlt : s < (N : Int) + 1
    · obtain ⟨r, hx, g0, g1, g2, g3, g4, hi2⟩ := (X0.out _ _ _ hi.out).1 hlt
      have HI2 := Lib.hid hi2
      have HC := Lib.hid (hp.out.next N C _ hx)
      have HLEN := Lib.hid hi.out.len
      have hq1 := run_min2 r (N : Int) _ rfl
      obtain ⟨M, hM⟩ : ∃ M, min r (N : Int) = M := ⟨_, rfl⟩
      rw [hM] at hq1 g3
      have hq2 : wrap64 (M - s) = M - s := wrap_at rfl (by have := HNN.out; omega) (by have := HNN.out; omega)
      have j1 : ¬ (r ≤ s) := by omega
      have j2 : ¬ (M - s > C) := by omega
      have j3 : (N : Int) ≤ r → r = (N : Int) + 1 := g4
      have HI := Lib.hid hi.out
      clear hx hi2 hp hi hlt g0 g1 g2 g3 g4 hM
      by_cases hrN : (N : Int) ≤ r
      · have hre := j3 hrN
        subst hre
        have j4 : ((N : Int) + 1 ≥ (N : Int)) := hrN
        clear j3 hrN
        have j5 := HWR.out.1
        go_wp2_with fail
        refine HC.out.mono ?_
        rintro e w7 ⟨rfl, v7, h7⟩
        obtain ⟨A', c', w8, hr, h8⟩ := h7.app k HLEN.out (by omega) s ((N : Int) + 1)
        have H8 := Lib.hid h8
        clear h7 h8 HC
        go_wp2_with (at_builtin; refine Lib.wpList_append_run _ rfl _ _ _ _ rfl _ _ rfl rfl _ _ hr ?_)
        clear hr
        go_roundw
        case rel => exact ⟨k + 1, (N : Int) + 1, v7, A', c', _, by clear j5 hq2; go_num, rfl, rfl, HI2, H8⟩
        case measure => clear j5 hq2; simp [intOf]; omega
      · have j4 : ¬ (r ≥ (N : Int)) := hrN
        clear j3 hrN
        go_wp2_with fail
        refine HC.out.mono ?_
        rintro e w7 ⟨rfl, v7, h7⟩
        obtain ⟨A', c', w8, hr, h8⟩ := h7.app k HLEN.out (by omega) s r
        have H8 := Lib.hid h8
        clear h7 h8 HC
        go_wp2_with (at_builtin; refine Lib.wpList_append_run _ rfl _ _ _ _ rfl _ _ rfl rfl _ _ hr ?_)
        clear hr
        go_roundw
        case rel => exact ⟨k + 1, r, v7, A', c', _, by clear hq2; go_num, rfl, rfl, HI2, H8⟩
        case measure => clear hq2; simp [intOf]; omega
    · obtain ⟨hs, hmx⟩ := HDN.out _ _ _ hi.out (by omega)
      obtain ⟨hmE, k1, k2⟩ := X3.out k hmx
      have hm1 := run_max2 E 1 (k : Int) hmE.symm
      have hx := (X0.out _ _ _ hi.out).2 (by omega)
      subst hs
      have HC := Lib.hid (hp.out.next N C _ hx)
      have HW2 := Lib.hid (fun w => within_any a2 (k : Int) w (by omega) (by omega))
      obtain ⟨jn, hjn⟩ : ∃ x : Nat, a2 % (k : Int) = x := ⟨(a2 % (k : Int)).toNat, by have := Int.emod_nonneg a2 (show (k : Int) ≠ 0 by omega); omega⟩
      have hjk : jn < k := by have := Int.emod_lt_of_pos a2 (show 0 < (k : Int) by omega); omega
      rw [hjn] at HW2
      obtain ⟨⟨t0, t1⟩, hT⟩ : ∃ x, ts.getD jn (0, 0) = x := ⟨_, rfl⟩
      have hgood : GoodPc N C (t0, t1) := by
        rw [← hT]
        refine hi.out.good _ ?_
        have hl := hi.out.len
        have hjl : jn < ts.length := by omega
        have : ts.getD jn (0, 0) = ts[jn] := by simp [List.getD, hjl]
        rw [this]
        exact List.getElem_mem _
      have HG := Lib.hid hgood
      have HTT := Lib.hid hT
      have XA := Lib.hid (X1.out (t0, t1) hgood)
      have XB := Lib.hid (X2.out (t0, t1) hgood)
      have j1 : (0 : Int) ≤ (jn : Int) := by omega
      have j2 : (jn : Int) < (k : Int) := by omega
      have HJK := Lib.hid hjk
      clear hmx hmE k2 hx hp hi hlt hjn hT hgood hk100
      obtain ⟨w1', w2', w3', w4', w5', hE⟩ := HWR.out
      go_wp2_with fail
      refine HC.out.mono ?_
      rintro e w7 ⟨rfl, v7, h7⟩
      obtain ⟨g, rfl, _⟩ := h7.ow.at (by omega)
      have x1 := (h7.ow.cells jn HJK.out).1
      have x2 := (h7.ow.cells jn HJK.out).2
      rw [HTT.out] at x1 x2
      simp only [] at x1 x2
      have H7 := Lib.hid h7
      clear h7 HC
      go_wp2_with fail
      refine (HW2.out _).mono ?_
      rintro e w8 ⟨rfl, rfl⟩
      go_wp2_with fail
      have h9 := H7.out.box t0 t1
      obtain ⟨W9, hW9⟩ : ∃ w, w7.alloc (.cells #[.int .i64 t0, .int .i64 t1] 55) = w := ⟨_, rfl⟩
      obtain ⟨bx, hbx⟩ : ∃ b, w7.heap.size = b := ⟨_, rfl⟩
      rw [hW9, hbx] at h9
      rw [hW9, hbx]
      have H9 := Lib.hid h9
      clear h9 hW9 hbx x1 x2 H7
      refine (H9.out.lost t0 t1 _ XB.out).mono ?_
      rintro e w10 ⟨rfl, v10, h10⟩
      have H10 := Lib.hid h10
      clear h10 H9
      go_wp2_with fail
      try rw [w2']
      refine (HW3.out _).mono ?_
      rintro e w11 ⟨rfl, rfl⟩
      go_wp2_with fail
      refine (H10.out.ack K).mono ?_
      rw [HOM.out, HO2.out]
      rintro e w12 ⟨rfl, h12⟩
      have H12 := Lib.hid h12
      clear h12 H10
      by_cases hK1 : t1 ≤ K
      · have i2 : K ≥ t1 := hK1
        have HC := Lib.hid (H12.out.next N C _ (XA.out.1 hK1))
        clear hK1
        go_wp2_with fail
        refine HC.out.mono ?_
        rintro e w13 ⟨rfl, v13, h13⟩
        have x1 := h13.cells.1
        have x2 := h13.cells.2
        have H13 := Lib.hid h13
        clear h13 HC H12
        go_wp2_with fail
        refine H13.out.missing.mono ?_
        rintro e w14 ⟨B2, d2, rfl, _, h14, _⟩
        have HF := Lib.hid (HB2.out.trans (h14.b.bel.mono HB2.out.size))
        clear h14 H13
        go_wp2_with fail
        refine (HWA.out _).mono ?_
        rintro e w15 ⟨rfl, hb15⟩
        have HF2 := Lib.hid (HF.out.trans (hb15.mono HF.out.size))
        clear hb15 HF
        go_wp2_with fail
        go_ret
        exact ⟨rfl, HF2.out⟩
      · have i2 : ¬ (K ≥ t1) := hK1
        have HC := Lib.hid (H12.out.next N C _ (XA.out.2.1 (by show K < t1; clear w1' w2' w3' w4' w5' hE; omega)))
        have hm2 := run_max2 t0 K _ rfl
        obtain ⟨M, hM⟩ : ∃ M, max t0 K = M := ⟨_, rfl⟩
        rw [show max (t0, t1).1 K = M from hM] at HC
        rw [hM] at hm2
        clear hK1 hM
        go_wp2_with fail
        refine HC.out.mono ?_
        rintro e w13 ⟨rfl, v13, h13⟩
        have x1 := h13.cells.1
        have x2 := h13.cells.2
        have H13 := Lib.hid h13
        clear h13 HC H12
        go_wp2_with fail
        refine (H13.out.next N C _ XA.out.2.2).mono ?_
        rintro e w14 ⟨rfl, v14, h14⟩
        have y1 := h14.cells.1
        have y2 := h14.cells.2
        have H14 := Lib.hid h14
        clear h14 H13
        go_wp2_with fail
        refine (sent_any H14.out.b.pl).mono ?_
        rintro e w15 ⟨rfl, rfl⟩
        have HF := Lib.hid (HB2.out.trans (H14.out.b.bel.mono HB2.out.size))
        clear H14
        go_wp2_with fail
        refine (HWA.out _).mono ?_
        rintro e w16 ⟨rfl, hb16⟩
        have HF2 := Lib.hid (HF.out.trans (hb16.mono HF.out.size))
        clear hb16 HF
        go_wp2_with fail
        go_ret
        exact ⟨rfl, HF2.out⟩
end Go.Proofs.Ytjpnpaacekdeeaa
