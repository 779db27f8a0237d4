/-
  The walk of SchedGaps.
-/
import Derived.Test.YtffofgockddpiaaSchedTri
import Derived.Test.YtffofgockddpiaaSchedGapsMath
import Derived.Deep.DeepCutAuto
import Derived.Deep.CutBlock
import Derived.Deep.RegionHeld3
namespace Go.Proofs.Ytffofgockddpiaa
open Go.RowKit

/-- Behind some rounds: l was picked last. -/
def GapR (W w : World) (b1 b2 b3 gm : Nat) (ms : List Int) (g : Nat) (l : Int) : Prop := (l = -1 ∨ (0 ≤ l ∧ l ≤ 2 ∧ l ≠ (g : Int))) ∧ Own .i64 3 w W.heap.size (.slice (some ⟨gm, 0, none⟩) 3 3) ms ∧ TT W w b1 b2 b3 l

set_option maxRecDepth 100000 in
set_option maxHeartbeats 8000000 in
theorem schedGaps_walk (a0 a1 : Int) (a2 : Option Addr) (len2 cap2 : Nat) (z2 : List Int) (W : World) (h2 : ArgI .i64 8 W a2 len2 cap2 z2) :
    Calls Try.prog 3 #[.int .i64 a0, .int .i64 a1, .slice a2 len2 cap2] W fun e W' => e = .returned (.bool true) ∧ Below W.heap.size W W' := by
  have hre2 := h2.reach
  have hle2 := h2.le
  have HZ2 := Lib.hid (show ∀ (w : World), Below W.heap.size W w → ∀ i, i < len2 → ∃ g o x, a2 = some ⟨g, o, none⟩ ∧ w.cell? ⟨g, o + i, none⟩ = some (.int .i64 x) from fun w hw i hi => by
    obtain ⟨g, o, rfl, hc⟩ := (h2.rd.later hw).some_ (by rw [h2.len]; omega)
    exact ⟨g, o, _, rfl, hc i (by rw [h2.len]; exact hi)⟩)
  have q0 := Int.emod_nonneg a0 (show (3 : Int) ≠ 0 by omega)
  have q1 := Int.emod_lt_of_pos a0 (show (0 : Int) < 3 by omega)
  have HW0 := Lib.hid (fun w => within_any a0 3 w (by omega) (by omega))
  obtain ⟨g, hg⟩ : ∃ g : Nat, a0 % 3 = (g : Int) := ⟨(a0 % 3).toNat, by omega⟩
  rw [hg] at HW0 q0 q1
  have HG := Lib.hid (show g < 3 by omega)
  have r0 := Int.emod_nonneg a1 (show (6 : Int) ≠ 0 by omega)
  have r1 := Int.emod_lt_of_pos a1 (show (0 : Int) < 6 by omega)
  have HW1 := Lib.hid (fun w => within_any a1 6 w (by omega) (by omega))
  obtain ⟨y1, hy1⟩ : ∃ z : Int, a1 % 6 = z := ⟨_, rfl⟩
  rw [hy1] at HW1 r0 r1
  obtain ⟨R, hR⟩ : ∃ R : Nat, 1 + y1 = (R : Int) := ⟨(1 + y1).toNat, by omega⟩
  have HWR := Lib.hid (show wrap64 (1 + y1) = (R : Int) from wrap_atS hR (by omega) (by omega))
  have HRB := Lib.hid (show R ≤ 6 by omega)
  have HN := Lib.hid (fun k w => newsc_any k w)
  have hm0 := Own.newK .i64 W [4, 4, 4] 3 (by simp [maxLen])
  obtain ⟨gm, hgm⟩ : ∃ b, W.heap.size = b := ⟨_, rfl⟩
  have HM0 : Hid (∃ ms : List Int, ms.length = 3 ∧ (∀ j : Nat, j < 3 → 0 ≤ ms.getD j 0) ∧ Own .i64 3 (W.alloc (.cells (cel .i64 [4, 4, 4]).toArray 3)) W.heap.size (.slice (some ⟨gm, 0, none⟩) 3 3) ms ∧ Below W.heap.size W (W.alloc (.cells (cel .i64 [4, 4, 4]).toArray 3))) := Lib.hid ⟨[4, 4, 4], rfl, fun j hj => by
    have : j = 0 ∨ j = 1 ∨ j = 2 := by omega
    rcases this with rfl | rfl | rfl <;> decide, by rw [← hgm]; exact hm0, (Below.refl _ _).alloc (Nat.le_refl _) _⟩
  have HGM := Lib.hid hgm
  clear hre2 hle2 h2 q0 q1 hg r0 r1 hy1 hR hm0 hgm
  go_enter Try.func3, Try.ntmps3
  go_wp2_with fail
  refine (HW0.out _).mono ?_
  rintro e w9 ⟨rfl, rfl⟩
  clear HW0
  go_wp2_with fail
  refine (HW1.out _).mono ?_
  rintro e w9 ⟨rfl, rfl⟩
  clear HW1
  go_upto_block 0 with (fail)
  rw [HWR.out, HGM.out]
  go_cut [] (fun wx => ∃ wz, wz = wx ∧ Hid (∃ ms : List Int, ms.length = 3 ∧ (∀ j : Nat, j < 3 → 0 ≤ ms.getD j 0) ∧ Own .i64 3 wz W.heap.size (.slice (some ⟨gm, 0, none⟩) 3 3) ms ∧ Below W.heap.size W wz))
  case first =>
    go_wp2_with fail
    go_loopw [8] (fun iv wr => ∃ i : Nat, i ≤ 3 ∧ iv = .int .i64 i ∧ Hid (∃ ms : List Int, ms.length = 3 ∧ (∀ j : Nat, j < 3 → 0 ≤ ms.getD j 0) ∧ Own .i64 3 wr W.heap.size (.slice (some ⟨gm, 0, none⟩) 3 3) ms ∧ Below W.heap.size W wr)) (fun iv _ => 3 - (intOf iv).toNat)
    case atStart => exact ⟨0, by omega, rfl, HM0⟩
    case round =>
      clear HM0
      obtain ⟨i, hi, rfl, hmid⟩ := hrel
      by_cases hin : i < 3 ∧ i < len2
      · obtain ⟨ms, hml, hmu, hmo, hb⟩ := hmid.out
        obtain ⟨ga, o, x, rfl, y0⟩ := HZ2.out wr hb i hin.2
        obtain ⟨g9, hg9, -, -, -, hcc, hff⟩ := hmo.block (by omega)
        obtain ⟨rfl⟩ : gm = g9 := by injection hg9 with hg9; injection hg9
        have c1 := hcc i hin.1
        have f1 := hff i
        have i1 : (i : Int) < 3 := by omega
        have i2 : (i : Int) < (len2 : Int) := by omega
        have i3 : (0 : Int) ≤ (i : Int) := by omega
        have hy := Int.emod_nonneg x (show (9 : Int) ≠ 0 by omega)
        have HWX := Lib.hid (fun w => within_any x 9 w (by omega) (by omega))
        obtain ⟨y, hye⟩ : ∃ y, x % 9 = y := ⟨_, rfl⟩
        rw [hye] at HWX hy
        have HI := Lib.hid hin
        have HIW := Lib.hid (show wrap64 ((i : Int) + 1) = ((i + 1 : Nat) : Int) from wrap_atS (by omega) (by omega) (by omega))
        have HNX : Hid (∃ ms : List Int, ms.length = 3 ∧ (∀ j : Nat, j < 3 → 0 ≤ ms.getD j 0) ∧ Own .i64 3 (wr.setCell ⟨gm, i, none⟩ (.int .i64 y)) W.heap.size (.slice (some ⟨gm, 0, none⟩) 3 3) ms ∧ Below W.heap.size W (wr.setCell ⟨gm, i, none⟩ (.int .i64 y))) := Lib.hid (by
          refine ⟨ms.set i y, by rw [List.length_set]; exact hml, fun j hj => ?_, hmo.stored hml i y, hb.trans ((Trn.of_grown (setCell_one wr gm i _)).below hb.size (fun k hk => by have := (hmo.lt gm rfl).1; injection hk with hk; omega))⟩
          by_cases e : j = i
          · subst e
            simp only [List.getD_eq_getElem?_getD]
            rw [List.getElem?_set_self (by rw [hml]; exact hj)]
            exact hy
          · have := hmu j hj
            simp only [List.getD_eq_getElem?_getD, List.getElem?_set_ne (Ne.symm e)] at this ⊢
            exact this)
        clear hml hmu hmo hb hg9 hcc hff hy hye hmid hin hi
        go_wp2_with fail
        refine (HWX.out _).mono ?_
        rintro e w9 ⟨rfl, rfl⟩
        go_wp2
        go_roundw
        case rel => exact ⟨i + 1, by have := HI.out; omega, by first | rfl | (rw [HIW.out]) | go_num, HNX⟩
        case measure => (try rw [HIW.out]); have := HI.out; simp [intOf]; omega
      · by_cases h3 : i < 3
        · have i1 : (i : Int) < 3 := by omega
          have i2 : ¬ ((i : Int) < (len2 : Int)) := by omega
          clear hin hi
          go_wp2_with fail
          go_meet
          exact ⟨_, rfl, hmid⟩
        · have i1 : ¬ ((i : Int) < 3) := by omega
          clear hin hi
          go_wp2_with fail
          go_meet
          exact ⟨_, rfl, hmid⟩
  case rest =>
  obtain ⟨wa, rfl, hm⟩ := hcut
  obtain ⟨ms0, hml0, hmu0, hmo0, hba⟩ := hm.out
  have HML0 := Lib.hid (And.intro hml0 hmu0)
  have HMO0 := Lib.hid hmo0
  have HBA := Lib.hid hba
  clear HM0 hm hml0 hmu0 hmo0 hba
  go_wp2_with fail
  refine (HN.out 2 wa).mono ?_
  rintro e w1 ⟨rfl, h1, hb1⟩
  have H1 := Lib.hid (And.intro h1 hb1)
  clear h1 hb1
  go_wp2_with fail
  refine (HN.out 1 w1).mono ?_
  rintro e w2 ⟨rfl, h2, hb2⟩
  have H2 := Lib.hid (And.intro h2 hb2)
  clear h2 hb2
  go_wp2_with fail
  refine (HN.out 3 w2).mono ?_
  rintro e w3 ⟨rfl, h3, hb3⟩
  have HT := Lib.hid ((TT.start H1.out.1 H1.out.2 H2.out.1 H2.out.2 h3 hb3).base HBA.out)
  have HMO3 := Lib.hid (((HMO0.out.later H1.out.2).later H2.out.2).later hb3)
  obtain ⟨b1, hb1⟩ : ∃ b, wa.heap.size = b := ⟨_, rfl⟩
  obtain ⟨b2, hb2⟩ : ∃ b, w1.heap.size = b := ⟨_, rfl⟩
  obtain ⟨b3, hb3'⟩ : ∃ b, w2.heap.size = b := ⟨_, rfl⟩
  have HT9 : Hid (TT W w3 b1 b2 b3 (-1)) := Lib.hid (by rw [← hb1, ← hb2, ← hb3']; exact HT.out)
  rw [hb1, hb2, hb3']
  clear h3 hb3 HT H1 H2 HN hb1 hb2 hb3' HMO0 HBA
  -- one of them can't be used
  obtain ⟨g9, hg9, -, -, -, hcc, hff⟩ := HMO3.out.block (by omega)
  obtain ⟨rfl⟩ : gm = g9 := by injection hg9 with hg9; injection hg9
  have y1 := hcc g HG.out
  have y2 := hff g
  have gi1 : (g : Int) < 3 := by have := HG.out; omega
  have gi2 : (0 : Int) ≤ (g : Int) := by omega
  obtain ⟨ms, hms⟩ : ∃ ms, ms0.set g (-1) = ms := ⟨_, rfl⟩
  have HGAP : Hid (Gap ms g) := Lib.hid (by
    rw [← hms]
    refine ⟨by rw [List.length_set]; exact HML0.out.1, HG.out, ?_, fun j hj hne => ?_⟩
    · simp only [List.getD_eq_getElem?_getD]
      rw [List.getElem?_set_self (by rw [HML0.out.1]; exact HG.out)]
      decide
    · have := HML0.out.2 j hj
      simp only [List.getD_eq_getElem?_getD, List.getElem?_set_ne (Ne.symm hne)] at this ⊢
      exact this)
  have H0 : Hid (GapR W (w3.setCell ⟨gm, g, none⟩ (.int .i64 (-1))) b1 b2 b3 gm ms g (-1)) := Lib.hid ⟨.inl rfl, by rw [← hms]; exact HMO3.out.stored HML0.out.1 g (-1), HT9.out.row HMO3.out (setCell_one w3 gm g _)⟩
  clear hg9 hcc hff hms HT9 HMO3
  go_wp2_with fail
  clear y1 y2 gi1 gi2
  go_loopw [13, 12] (fun iv lv wr => ∃ (i : Nat) (l : Int), i ≤ R ∧ iv = .int .i64 i ∧ lv = .int .i64 l ∧ Hid (GapR W wr b1 b2 b3 gm ms g l)) (fun iv _ _ => R - (intOf iv).toNat)
  case atStart => exact ⟨0, -1, by omega, rfl, rfl, H0⟩
  case round =>
    clear H0
    obtain ⟨i, l, hi, rfl, rfl, hmid⟩ := hrel
    obtain ⟨hl, hmo, htt⟩ := hmid.out
    have HMO := Lib.hid hmo
    have HTT := Lib.hid htt
    have HLL := Lib.hid hl
    have hlr : -1 ≤ l ∧ l ≤ 2 := by omega
    have HLR := Lib.hid hlr
    clear hmo htt hl hmid
    by_cases hiR : i < R
    · have i1 : (i : Int) < (R : Int) := by omega
      have HI := Lib.hid hiR
      have HIW := Lib.hid (show wrap64 ((i : Int) + 1) = ((i + 1 : Nat) : Int) from wrap_atS (by omega) (by omega) (by have := HRB.out; omega))
      have HL1 := Lib.hid (show wrap64 (l + 1) = l + 1 from wrap_atS rfl (by omega) (by omega))
      have HR1 := Lib.hid (show (l + 1).tmod 3 = (l + 1) % 3 from Int.tmod_eq_emod_of_nonneg (by omega))
      obtain ⟨v, hv⟩ : ∃ v, (l + 1) % 3 = v := ⟨_, rfl⟩
      have HV := Lib.hid hv
      have HV2 := Lib.hid (show 0 ≤ v ∧ v ≤ 2 by omega)
      have HL2 := Lib.hid (show wrap64 (v + 1) = v + 1 from wrap_atS rfl (by omega) (by omega))
      have HR2 := Lib.hid (show (v + 1).tmod 3 = (v + 1) % 3 from Int.tmod_eq_emod_of_nonneg (by omega))
      rw [hv] at HR1
      have HWT := Lib.hid (show wantG g l = if v = (g : Int) then (v + 1) % 3 else v by unfold wantG; rw [hv])
      clear hv hi hiR
      go_upto_region 15 with (fail)
      clear i1
      go_cut [14] (fun wv wx => wv = .int .i64 v ∧ wr = wx)
      case first =>
        have e1 := HL1.out
        have e2 := HR1.out
        go_wp2
        go_meet
        exact ⟨by first | rfl | rw [HR1.out] | (rw [HL1.out, HR1.out]), rfl⟩
      case rest =>
      obtain ⟨rfl, rfl⟩ := hcut
      obtain ⟨b, hb, hb3, hbg⟩ := wantG_ok g l
      have HB := Lib.hid hb
      have HBB := Lib.hid (And.intro hb3 hbg)
      clear hb hb3 hbg
      go_upto_if 70 with (fail)
      go_cut [14] (fun wv wx => wv = .int .i64 (b : Int) ∧ wr = wx)
      case first =>
        by_cases hvg : v = (g : Int)
        · have HE := Lib.hid (show (v + 1) % 3 = (b : Int) by rw [← HB.out, HWT.out, if_pos hvg])
          have HVG := Lib.hid hvg
          rw [hvg] at HL2 HR2 HE ⊢
          clear hvg
          have e1 := HL2.out
          have e2 := HR2.out
          have e3 := HE.out
          go_wp2
          go_meet
          exact ⟨by first | rfl | rw [HE.out] | (rw [HR2.out, HE.out]) | (rw [HL2.out, HR2.out, HE.out]), rfl⟩
        · have HE := Lib.hid (show v = (b : Int) by rw [← HB.out, HWT.out, if_neg hvg])
          have hvb : (v == (g : Int)) = false := by rw [beq_eq_false_iff_ne]; exact hvg
          go_wp2
          go_meet
          exact ⟨by rw [HE.out], rfl⟩
      case rest =>
      obtain ⟨rfl, rfl⟩ := hcut
      have hqe := quick_ex HGAP.out.use
      obtain ⟨qb, hqb⟩ := hqe
      have HQB := Lib.hid hqb
      obtain ⟨y, z, hcan, hyg, hzg, hyz, hz3⟩ := HGAP.out.can
      have HYZ := Lib.hid (And.intro hyg (And.intro hzg (And.intro hyz hz3)))
      have HP1 := Lib.hid (HTT.out.pick1 (c := 3) HGAP.out.len HMO.out.rd (by omega) (L := [(b : Int)]) (l0 := (b : Int)) (N := 1) (.inr ⟨HGAP.out.use, .inr (.inl ⟨rfl, b, HGAP.out.round HLL.out HB.out, rfl, rfl⟩)⟩) rfl)
      have HPC : Hid (IsPick 3 (-1) ms [(y : Int), (z : Int)] (-1)) := Lib.hid (.inr ⟨HGAP.out.use, .inl ⟨rfl, hcan.symm, rfl⟩⟩)
      have HPQ : Hid (IsPick 1 (-1) ms [(qb : Int)] (-1)) := Lib.hid (.inr ⟨HGAP.out.use, .inr (.inr ⟨by decide, by decide, qb, hqb, rfl, rfl⟩)⟩)
      clear hqb hcan hyg hzg hyz hz3 hlr
      go_wp2_with fail
      refine HP1.out.mono ?_
      rintro e w5 ⟨A5, c5, rfl, ho5, ht5, hsc5⟩
      have HM5 := Lib.hid (HTT.out.own1 hsc5 HMO.out)
      have HX5 := Lib.hid ho5
      have HT5 := Lib.hid ht5
      have HP2 := Lib.hid (ht5.pick2 (c := 3) HGAP.out.len HM5.out.rd (by omega) (N := 1) HPQ.out rfl)
      clear ho5 ht5 hsc5 HP1 HTT HMO
      go_wp2_with fail
      refine HP2.out.mono ?_
      rintro e w6 ⟨A6, c6, rfl, ho6, ht6, hsc6⟩
      have HM6 := Lib.hid (HT5.out.own2 hsc6 HM5.out)
      have HX6 := Lib.hid (HT5.out.own2 hsc6 HX5.out)
      have HY6 := Lib.hid ho6
      have HT6 := Lib.hid ht6
      have HP3 := Lib.hid (ht6.pick3 (c := 3) HGAP.out.len HM6.out.rd (by omega) (N := 2) HPC.out rfl)
      clear ho6 ht6 hsc6 HP2 HT5 HM5 HX5
      go_wp2_with fail
      refine HP3.out.mono ?_
      rintro e w7 ⟨A7, c7, rfl, ho7, ht7, hsc7⟩
      have HM7 := Lib.hid (HT6.out.own3 hsc7 HM6.out)
      have HX7 := Lib.hid (HT6.out.own3 hsc7 HX6.out)
      have HY7 := Lib.hid (HT6.out.own3 hsc7 HY6.out)
      have HT7 := Lib.hid ht7
      obtain ⟨gx, rfl, -, -, -, hcx, -⟩ := HX7.out.block (by omega)
      obtain ⟨gy, rfl, -, -, -, hcy, -⟩ := HY7.out.block (by omega)
      obtain ⟨gz, rfl, -, -, -, hcz, -⟩ := ho7.block (by omega)
      obtain ⟨g9, hg9, -, -, -, hcm, -⟩ := HM7.out.block (by omega)
      obtain ⟨rfl⟩ : gm = g9 := by injection hg9 with hg9; injection hg9
      have hql := HQB.out.lt
      have hqg : qb ≠ g := fun e => by have := HQB.out.us; have := HGAP.out.no; rw [e] at *; omega
      rw [HGAP.out.len] at hql
      have hgl := HG.out
      obtain ⟨o1, ho1⟩ : ∃ o1 : Nat, 3 = g + o1 := ⟨3 - g, by omega⟩
      obtain ⟨o, ho⟩ : ∃ o : Nat, o1 = qb + o := ⟨o1 - qb, by omega⟩
      have hog : o < 3 ∧ o ≠ g := by omega
      have hmle := (HQB.out.least o (by rw [HGAP.out.len]; exact hog.1) (HGAP.out.yes o hog.1 hog.2)).1
      obtain ⟨mq, hmq⟩ : ∃ m, ms.getD qb 0 = m := ⟨_, rfl⟩
      obtain ⟨mo, hmo⟩ : ∃ m, ms.getD o 0 = m := ⟨_, rfl⟩
      rw [hmq, hmo] at hmle
      have x0 : w7.drew.cell? ⟨gx, 0, none⟩ = some (.int .i64 (b : Int)) := hcx 0 (by omega)
      have y0 : w7.drew.cell? ⟨gy, 0, none⟩ = some (.int .i64 (qb : Int)) := hcy 0 (by omega)
      have z0 : w7.drew.cell? ⟨gz, 0, none⟩ = some (.int .i64 (y : Int)) := hcz 0 (by omega)
      have z1 : w7.drew.cell? ⟨gz, 1, none⟩ = some (.int .i64 (z : Int)) := hcz 1 (by omega)
      have m0 : w7.drew.cell? ⟨gm, qb, none⟩ = some (.int .i64 mq) := by rw [← hmq]; exact hcm qb hql
      have m1 : w7.drew.cell? ⟨gm, o, none⟩ = some (.int .i64 mo) := by rw [← hmo]; exact hcm o hog.1
      have HF := Lib.hid (show qb ≠ g ∧ qb < 3 ∧ mq ≤ mo ∧ 3 = g + o1 ∧ o1 = qb + o ∧ o < 3 ∧ b ≠ g ∧ b < 3 by have := HBB.out; omega)
      have q1 : (qb : Int) < 3 := by omega
      have q2 : (0 : Int) ≤ (qb : Int) := by omega
      have o2 : (o : Int) < 3 := by omega
      have o3 : (0 : Int) ≤ (o : Int) := by omega
      have HNX : Hid (GapR W w7.drew b1 b2 b3 gm ms g (b : Int)) := Lib.hid ⟨.inr (by have := HBB.out; omega), HM7.out, HT7.out.later (below_drS w7 1)⟩
      clear ho7 ht7 hsc7 hcx hcy hcz hg9 hcm hql hqg hgl ho1 ho hog hmle hmq hmo HP3 HT6 HM6 HX6 HY6 HM7 HX7 HY7 HT7
      go_wp2_with fail
      simp only [List.append_eq, List.cons_append, List.nil_append]
      refine wp_region_held_drew (S := fun wi => wi.cell? ⟨gx, 0, none⟩ = some (.int .i64 (b : Int)) ∧ wi.cell? ⟨gy, 0, none⟩ = some (.int .i64 (qb : Int)) ∧ wi.cell? ⟨gz, 0, none⟩ = some (.int .i64 (y : Int)) ∧ wi.cell? ⟨gz, 1, none⟩ = some (.int .i64 (z : Int)) ∧ wi.cell? ⟨gm, qb, none⟩ = some (.int .i64 mq) ∧ wi.cell? ⟨gm, o, none⟩ = some (.int .i64 mo)) (by kernel_rfl) ⟨x0, y0, z0, z1, m0, m1⟩ ?_
      intro hHeld
      clear x0 y0 z0 z1 m0 m1
      refine wpAnyH_take (i := 0) (v := ?_) rfl (by kernel_rfl) (by kernel_rfl) (by kernel_rfl) (fun _ _ _ h => h) (Or.inl ⟨by rfl, ?_⟩) (by assumption) ?_
      rotate_left
      · intro w hSw
        (try dsimp only at hSw)
        go_simp
        try (with_reducible rfl)
      try simp only [Act.put, List.getElem_toArray, List.getElem_cons_zero, List.setIfInBounds_toArray, List.set_cons_zero, List.set_cons_succ]
      refine wpAnyH_take (i := 1) (v := ?_) rfl (by kernel_rfl) (by kernel_rfl) (by kernel_rfl) (fun _ _ _ h => h) (Or.inl ⟨by rfl, ?_⟩) (by assumption) ?_
      rotate_left
      · intro w hSw
        (try dsimp only at hSw)
        go_simp
        try (with_reducible rfl)
      try simp only [Act.put, List.getElem_toArray, List.getElem_cons_zero, List.getElem_cons_succ, List.setIfInBounds_toArray, List.set_cons_zero, List.set_cons_succ]
      refine wpAnyH_take (i := 2) (v := ?_) rfl (by kernel_rfl) (by kernel_rfl) (by kernel_rfl) (fun _ _ _ h => h) (Or.inl ⟨by rfl, ?_⟩) (by assumption) ?_
      rotate_left
      · intro w hSw
        (try dsimp only at hSw)
        go_simp
        try (with_reducible rfl)
      try simp only [Act.put, List.getElem_toArray, List.getElem_cons_zero, List.getElem_cons_succ, List.setIfInBounds_toArray, List.set_cons_zero, List.set_cons_succ]
      refine wpAnyH_take (i := 3) (v := ?_) rfl (by kernel_rfl) (by kernel_rfl) (by kernel_rfl) (fun _ _ _ h => h) (Or.inl ⟨by rfl, ?_⟩) (by assumption) ?_
      rotate_left
      · intro w hSw
        (try dsimp only at hSw)
        go_simp
        try (with_reducible rfl)
      try simp only [Act.put, List.getElem_toArray, List.getElem_cons_zero, List.getElem_cons_succ, List.setIfInBounds_toArray, List.set_cons_zero, List.set_cons_succ]
      refine wpAnyH_take (i := 4) (v := ?_) rfl (by kernel_rfl) (by kernel_rfl) (by kernel_rfl) (fun _ _ _ h => h) (Or.inl ⟨by rfl, ?_⟩) (by assumption) ?_
      rotate_left
      · intro w hSw
        (try dsimp only at hSw)
        go_simp
        try (with_reducible rfl)
      try simp only [Act.put, List.getElem_toArray, List.getElem_cons_zero, List.getElem_cons_succ, List.setIfInBounds_toArray, List.set_cons_zero, List.set_cons_succ]
      refine wpAnyH_take (i := 5) (v := ?_) rfl (by kernel_rfl) (by kernel_rfl) (by kernel_rfl) (fun _ _ _ h => h) (Or.inl ⟨by rfl, ?_⟩) (by assumption) ?_
      rotate_left
      · intro w hSw
        (try dsimp only at hSw)
        go_simp
        try (with_reducible rfl)
      try simp only [Act.put, List.getElem_toArray, List.getElem_cons_zero, List.getElem_cons_succ, List.setIfInBounds_toArray, List.set_cons_zero, List.set_cons_succ]
      refine wpAnyH_take (i := 6) (v := ?_) rfl (by kernel_rfl) (by kernel_rfl) (by kernel_rfl) (fun _ _ _ h => h) (Or.inl ⟨by rfl, ?_⟩) (by assumption) ?_
      rotate_left
      · intro w hSw
        (try dsimp only at hSw)
        have c9 := hSw.1
        clear hSw
        go_simp
        try (with_reducible rfl)
      try simp only [Act.put, List.getElem_toArray, List.getElem_cons_zero, List.getElem_cons_succ, List.setIfInBounds_toArray, List.set_cons_zero, List.set_cons_succ]
      refine wpAnyH_take (i := 7) (v := ?_) rfl (by kernel_rfl) (by kernel_rfl) (by kernel_rfl) (fun _ _ _ h => h) (Or.inl ⟨by rfl, ?_⟩) (by assumption) ?_
      rotate_left
      · intro w hSw
        (try dsimp only at hSw)
        go_simp
        try (with_reducible rfl)
      try simp only [Act.put, List.getElem_toArray, List.getElem_cons_zero, List.getElem_cons_succ, List.setIfInBounds_toArray, List.set_cons_zero, List.set_cons_succ]
      refine wpAnyH_take (i := 8) (v := ?_) rfl (by kernel_rfl) (by kernel_rfl) (by kernel_rfl) (fun _ _ _ h => h) (Or.inl ⟨by rfl, ?_⟩) (by assumption) ?_
      rotate_left
      · intro w hSw
        (try dsimp only at hSw)
        go_simp
        try (with_reducible rfl)
      try simp only [Act.put, List.getElem_toArray, List.getElem_cons_zero, List.getElem_cons_succ, List.setIfInBounds_toArray, List.set_cons_zero, List.set_cons_succ]
      refine wpAnyH_take (i := 9) (v := ?_) rfl (by kernel_rfl) (by kernel_rfl) (by kernel_rfl) (fun _ _ _ h => h) (Or.inl ⟨by rfl, ?_⟩) (by assumption) ?_
      rotate_left
      · intro w hSw
        (try dsimp only at hSw)
        go_simp
        try (with_reducible rfl)
      try simp only [Act.put, List.getElem_toArray, List.getElem_cons_zero, List.getElem_cons_succ, List.setIfInBounds_toArray, List.set_cons_zero, List.set_cons_succ]
      refine wpAnyH_take (i := 10) (v := ?_) rfl (by kernel_rfl) (by kernel_rfl) (by kernel_rfl) (fun _ _ _ h => h) (Or.inl ⟨by rfl, ?_⟩) (by assumption) ?_
      rotate_left
      · intro w hSw
        (try dsimp only at hSw)
        go_simp
        try (with_reducible rfl)
      try simp only [Act.put, List.getElem_toArray, List.getElem_cons_zero, List.getElem_cons_succ, List.setIfInBounds_toArray, List.set_cons_zero, List.set_cons_succ]
      refine wpAnyH_take (i := 11) (v := ?_) rfl (by kernel_rfl) (by kernel_rfl) (by kernel_rfl) (fun _ _ _ h => h) (Or.inl ⟨by rfl, ?_⟩) (by assumption) ?_
      rotate_left
      · intro w hSw
        (try dsimp only at hSw)
        go_simp
        try (with_reducible rfl)
      try simp only [Act.put, List.getElem_toArray, List.getElem_cons_zero, List.getElem_cons_succ, List.setIfInBounds_toArray, List.set_cons_zero, List.set_cons_succ]
      refine wpAnyH_take (i := 12) (v := ?_) rfl (by kernel_rfl) (by kernel_rfl) (by kernel_rfl) (fun _ _ _ h => h) (Or.inl ⟨by rfl, ?_⟩) (by assumption) ?_
      rotate_left
      · intro w hSw
        (try dsimp only at hSw)
        go_simp
        try (with_reducible rfl)
      try simp only [Act.put, List.getElem_toArray, List.getElem_cons_zero, List.getElem_cons_succ, List.setIfInBounds_toArray, List.set_cons_zero, List.set_cons_succ]
      refine wpAnyH_take (i := 13) (v := ?_) rfl (by kernel_rfl) (by kernel_rfl) (by kernel_rfl) (fun _ _ _ h => h) (Or.inl ⟨by rfl, ?_⟩) (by assumption) ?_
      rotate_left
      · intro w hSw
        (try dsimp only at hSw)
        go_simp
        try (with_reducible rfl)
      try simp only [Act.put, List.getElem_toArray, List.getElem_cons_zero, List.getElem_cons_succ, List.setIfInBounds_toArray, List.set_cons_zero, List.set_cons_succ]
      refine wpAnyH_take (i := 14) (v := ?_) rfl (by kernel_rfl) (by kernel_rfl) (by kernel_rfl) (fun _ _ _ h => h) (Or.inl ⟨by rfl, ?_⟩) (by assumption) ?_
      rotate_left
      · intro w hSw
        (try dsimp only at hSw)
        go_simp
        try (with_reducible rfl)
      try simp only [Act.put, List.getElem_toArray, List.getElem_cons_zero, List.getElem_cons_succ, List.setIfInBounds_toArray, List.set_cons_zero, List.set_cons_succ]
      refine wpAnyH_take (i := 15) (v := ?_) rfl (by kernel_rfl) (by kernel_rfl) (by kernel_rfl) (fun _ _ _ h => h) (Or.inl ⟨by rfl, ?_⟩) (by assumption) ?_
      rotate_left
      · intro w hSw
        (try dsimp only at hSw)
        go_simp
        try (with_reducible rfl)
      try simp only [Act.put, List.getElem_toArray, List.getElem_cons_zero, List.getElem_cons_succ, List.setIfInBounds_toArray, List.set_cons_zero, List.set_cons_succ]
      refine wpAnyH_take (i := 16) (v := ?_) rfl (by kernel_rfl) (by kernel_rfl) (by kernel_rfl) (fun _ _ _ h => h) (Or.inl ⟨by rfl, ?_⟩) (by assumption) ?_
      rotate_left
      · intro w hSw
        (try dsimp only at hSw)
        go_simp
        try (with_reducible rfl)
      try simp only [Act.put, List.getElem_toArray, List.getElem_cons_zero, List.getElem_cons_succ, List.setIfInBounds_toArray, List.set_cons_zero, List.set_cons_succ]
      refine wpAnyH_take (i := 17) (v := ?_) rfl (by kernel_rfl) (by kernel_rfl) (by kernel_rfl) (fun _ _ _ h => h) (Or.inl ⟨by rfl, ?_⟩) (by assumption) ?_
      rotate_left
      · intro w hSw
        (try dsimp only at hSw)
        go_simp
        try (with_reducible rfl)
      try simp only [Act.put, List.getElem_toArray, List.getElem_cons_zero, List.getElem_cons_succ, List.setIfInBounds_toArray, List.set_cons_zero, List.set_cons_succ]
      refine wpAnyH_take (i := 18) (v := ?_) rfl (by kernel_rfl) (by kernel_rfl) (by kernel_rfl) (fun _ _ _ h => h) (Or.inl ⟨by rfl, ?_⟩) (by assumption) ?_
      rotate_left
      · intro w hSw
        (try dsimp only at hSw)
        have c9 := hSw.2.1
        clear hSw
        go_simp
        try (with_reducible rfl)
      try simp only [Act.put, List.getElem_toArray, List.getElem_cons_zero, List.getElem_cons_succ, List.setIfInBounds_toArray, List.set_cons_zero, List.set_cons_succ]
      refine wpAnyH_take (i := 19) (v := ?_) rfl (by kernel_rfl) (by kernel_rfl) (by kernel_rfl) (fun _ _ _ h => h) (Or.inl ⟨by rfl, ?_⟩) (by assumption) ?_
      rotate_left
      · intro w hSw
        (try dsimp only at hSw)
        go_simp
        try (with_reducible rfl)
      try simp only [Act.put, List.getElem_toArray, List.getElem_cons_zero, List.getElem_cons_succ, List.setIfInBounds_toArray, List.set_cons_zero, List.set_cons_succ]
      have f1 : ¬ (qb = g) := by have := HF.out; omega
      have f2 : (qb == g) = false := by rw [beq_eq_false_iff_ne]; exact f1
      have f3 : ((qb : Int) == (g : Int)) = false := by rw [beq_eq_false_iff_ne]; omega
      have f4 : decide (qb = g) = false := decide_eq_false f1
      have f5 : ¬ ((qb : Int) = (g : Int)) := by omega
      refine wpAnyH_take (i := 20) (v := ?_) rfl (by kernel_rfl) (by kernel_rfl) (by kernel_rfl) (fun _ _ _ h => h) (Or.inl ⟨by rfl, ?_⟩) (by assumption) ?_
      rotate_left
      · intro w hSw
        (try dsimp only at hSw)
        go_simp
        try (with_reducible rfl)
      try simp only [Act.put, List.getElem_toArray, List.getElem_cons_zero, List.getElem_cons_succ, List.setIfInBounds_toArray, List.set_cons_zero, List.set_cons_succ]
      refine wpAnyH_take (i := 21) (v := ?_) rfl (by kernel_rfl) (by kernel_rfl) (by kernel_rfl) (fun _ _ _ h => h) (Or.inl ⟨by rfl, ?_⟩) (by assumption) ?_
      rotate_left
      · intro w hSw
        (try dsimp only at hSw)
        go_simp
        try (with_reducible rfl)
      try simp only [Act.put, List.getElem_toArray, List.getElem_cons_zero, List.getElem_cons_succ, List.setIfInBounds_toArray, List.set_cons_zero, List.set_cons_succ]
      refine wpAnyH_take (i := 22) (v := ?_) rfl (by kernel_rfl) (by kernel_rfl) (by kernel_rfl) (fun _ _ _ h => h) (Or.inl ⟨by rfl, ?_⟩) (by assumption) ?_
      rotate_left
      · intro w hSw
        (try dsimp only at hSw)
        go_simp
        try (with_reducible rfl)
      try simp only [Act.put, List.getElem_toArray, List.getElem_cons_zero, List.getElem_cons_succ, List.setIfInBounds_toArray, List.set_cons_zero, List.set_cons_succ]
      clear f1 f2 f3 f4 f5
      refine wpAnyH_take (i := 23) (v := ?_) rfl (by kernel_rfl) (by kernel_rfl) (by kernel_rfl) (fun _ _ _ h => h) (Or.inl ⟨by rfl, ?_⟩) (by assumption) ?_
      rotate_left
      · intro w hSw
        (try dsimp only at hSw)
        go_simp
        try (with_reducible rfl)
      try simp only [Act.put, List.getElem_toArray, List.getElem_cons_zero, List.getElem_cons_succ, List.setIfInBounds_toArray, List.set_cons_zero, List.set_cons_succ]
      refine wpAnyH_take (i := 24) (v := ?_) rfl (by kernel_rfl) (by kernel_rfl) (by kernel_rfl) (fun _ _ _ h => h) (Or.inl ⟨by rfl, ?_⟩) (by assumption) ?_
      rotate_left
      · intro w hSw
        (try dsimp only at hSw)
        go_simp
        try (with_reducible rfl)
      try simp only [Act.put, List.getElem_toArray, List.getElem_cons_zero, List.getElem_cons_succ, List.setIfInBounds_toArray, List.set_cons_zero, List.set_cons_succ]
      refine wpAnyH_take (i := 25) (v := ?_) rfl (by kernel_rfl) (by kernel_rfl) (by kernel_rfl) (fun _ _ _ h => h) (Or.inl ⟨by rfl, ?_⟩) (by assumption) ?_
      rotate_left
      · intro w hSw
        (try dsimp only at hSw)
        have c9 := hSw.2.1
        clear hSw
        go_simp
        try (with_reducible rfl)
      try simp only [Act.put, List.getElem_toArray, List.getElem_cons_zero, List.getElem_cons_succ, List.setIfInBounds_toArray, List.set_cons_zero, List.set_cons_succ]
      have f1 : ¬ ((qb : Int) < 0) := by have := HF.out; omega
      have f2 : decide ((qb : Int) < 0) = false := decide_eq_false f1
      refine wpAnyH_take (i := 26) (v := ?_) rfl (by kernel_rfl) (by kernel_rfl) (by kernel_rfl) (fun _ _ _ h => h) (Or.inl ⟨by rfl, ?_⟩) (by assumption) ?_
      rotate_left
      · intro w hSw
        (try dsimp only at hSw)
        go_simp
        try (with_reducible rfl)
      try simp only [Act.put, List.getElem_toArray, List.getElem_cons_zero, List.getElem_cons_succ, List.setIfInBounds_toArray, List.set_cons_zero, List.set_cons_succ]
      refine wpAnyH_take (i := 27) (v := ?_) rfl (by kernel_rfl) (by kernel_rfl) (by kernel_rfl) (fun _ _ _ h => h) (Or.inl ⟨by rfl, ?_⟩) (by assumption) ?_
      rotate_left
      · intro w hSw
        (try dsimp only at hSw)
        go_simp
        try (with_reducible rfl)
      try simp only [Act.put, List.getElem_toArray, List.getElem_cons_zero, List.getElem_cons_succ, List.setIfInBounds_toArray, List.set_cons_zero, List.set_cons_succ]
      refine wpAnyH_take (i := 28) (v := ?_) rfl (by kernel_rfl) (by kernel_rfl) (by kernel_rfl) (fun _ _ _ h => h) (Or.inl ⟨by rfl, ?_⟩) (by assumption) ?_
      rotate_left
      · intro w hSw
        (try dsimp only at hSw)
        go_simp
        try (with_reducible rfl)
      try simp only [Act.put, List.getElem_toArray, List.getElem_cons_zero, List.getElem_cons_succ, List.setIfInBounds_toArray, List.set_cons_zero, List.set_cons_succ]
      clear f1 f2
      refine wpAnyH_take (i := 29) (v := ?_) rfl (by kernel_rfl) (by kernel_rfl) (by kernel_rfl) (fun _ _ _ h => h) (Or.inl ⟨by rfl, ?_⟩) (by assumption) ?_
      rotate_left
      · intro w hSw
        (try dsimp only at hSw)
        go_simp
        try (with_reducible rfl)
      try simp only [Act.put, List.getElem_toArray, List.getElem_cons_zero, List.getElem_cons_succ, List.setIfInBounds_toArray, List.set_cons_zero, List.set_cons_succ]
      refine wpAnyH_take (i := 30) (v := ?_) rfl (by kernel_rfl) (by kernel_rfl) (by kernel_rfl) (fun _ _ _ h => h) (Or.inl ⟨by rfl, ?_⟩) (by assumption) ?_
      rotate_left
      · intro w hSw
        (try dsimp only at hSw)
        go_simp
        try (with_reducible rfl)
      try simp only [Act.put, List.getElem_toArray, List.getElem_cons_zero, List.getElem_cons_succ, List.setIfInBounds_toArray, List.set_cons_zero, List.set_cons_succ]
      refine wpAnyH_take (i := 31) (v := ?_) rfl (by kernel_rfl) (by kernel_rfl) (by kernel_rfl) (fun _ _ _ h => h) (Or.inl ⟨by rfl, ?_⟩) (by assumption) ?_
      rotate_left
      · intro w hSw
        (try dsimp only at hSw)
        have c9 := hSw.2.1
        clear hSw
        go_simp
        try (with_reducible rfl)
      try simp only [Act.put, List.getElem_toArray, List.getElem_cons_zero, List.getElem_cons_succ, List.setIfInBounds_toArray, List.set_cons_zero, List.set_cons_succ]
      have f1 : ¬ ((qb : Int) > 2) := by have := HF.out; omega
      have f2 : decide ((qb : Int) > 2) = false := decide_eq_false f1
      have f3 : ¬ (2 < (qb : Int)) := by have := HF.out; omega
      have f4 : decide (2 < (qb : Int)) = false := decide_eq_false f3
      have f5 : ¬ (2 < qb) := by have := HF.out; omega
      have f6 : decide (2 < qb) = false := decide_eq_false f5
      have f7 : ¬ (qb > 2) := by have := HF.out; omega
      have f8 : decide (qb > 2) = false := decide_eq_false f7
      refine wpAnyH_take (i := 32) (v := ?_) rfl (by kernel_rfl) (by kernel_rfl) (by kernel_rfl) (fun _ _ _ h => h) (Or.inl ⟨by rfl, ?_⟩) (by assumption) ?_
      rotate_left
      · intro w hSw
        (try dsimp only at hSw)
        go_simp
        try (with_reducible rfl)
      try simp only [Act.put, List.getElem_toArray, List.getElem_cons_zero, List.getElem_cons_succ, List.setIfInBounds_toArray, List.set_cons_zero, List.set_cons_succ]
      refine wpAnyH_take (i := 33) (v := ?_) rfl (by kernel_rfl) (by kernel_rfl) (by kernel_rfl) (fun _ _ _ h => h) (Or.inl ⟨by rfl, ?_⟩) (by assumption) ?_
      rotate_left
      · intro w hSw
        (try dsimp only at hSw)
        go_simp
        try (with_reducible rfl)
      try simp only [Act.put, List.getElem_toArray, List.getElem_cons_zero, List.getElem_cons_succ, List.setIfInBounds_toArray, List.set_cons_zero, List.set_cons_succ]
      refine wpAnyH_take (i := 34) (v := ?_) rfl (by kernel_rfl) (by kernel_rfl) (by kernel_rfl) (fun _ _ _ h => h) (Or.inl ⟨by rfl, ?_⟩) (by assumption) ?_
      rotate_left
      · intro w hSw
        (try dsimp only at hSw)
        go_simp
        try (with_reducible rfl)
      try simp only [Act.put, List.getElem_toArray, List.getElem_cons_zero, List.getElem_cons_succ, List.setIfInBounds_toArray, List.set_cons_zero, List.set_cons_succ]
      clear f1 f2 f3 f4 f5 f6 f7 f8
      refine wpAnyH_take (i := 35) (v := ?_) rfl (by kernel_rfl) (by kernel_rfl) (by kernel_rfl) (fun _ _ _ h => h) (Or.inl ⟨by rfl, ?_⟩) (by assumption) ?_
      rotate_left
      · intro w hSw
        (try dsimp only at hSw)
        go_simp
        try (with_reducible rfl)
      try simp only [Act.put, List.getElem_toArray, List.getElem_cons_zero, List.getElem_cons_succ, List.setIfInBounds_toArray, List.set_cons_zero, List.set_cons_succ]
      refine wpAnyH_take (i := 36) (v := ?_) rfl (by kernel_rfl) (by kernel_rfl) (by kernel_rfl) (fun _ _ _ h => h) (Or.inl ⟨by rfl, ?_⟩) (by assumption) ?_
      rotate_left
      · intro w hSw
        (try dsimp only at hSw)
        go_simp
        try (with_reducible rfl)
      try simp only [Act.put, List.getElem_toArray, List.getElem_cons_zero, List.getElem_cons_succ, List.setIfInBounds_toArray, List.set_cons_zero, List.set_cons_succ]
      refine wpAnyH_take (i := 37) (v := ?_) rfl (by kernel_rfl) (by kernel_rfl) (by kernel_rfl) (fun _ _ _ h => h) (Or.inl ⟨by rfl, ?_⟩) (by assumption) ?_
      rotate_left
      · intro w hSw
        (try dsimp only at hSw)
        go_simp
        try (with_reducible rfl)
      try simp only [Act.put, List.getElem_toArray, List.getElem_cons_zero, List.getElem_cons_succ, List.setIfInBounds_toArray, List.set_cons_zero, List.set_cons_succ]
      refine wpAnyH_take (i := 38) (v := ?_) rfl (by kernel_rfl) (by kernel_rfl) (by kernel_rfl) (fun _ _ _ h => h) (Or.inl ⟨by rfl, ?_⟩) (by assumption) ?_
      rotate_left
      · intro w hSw
        (try dsimp only at hSw)
        go_simp
        try (with_reducible rfl)
      try simp only [Act.put, List.getElem_toArray, List.getElem_cons_zero, List.getElem_cons_succ, List.setIfInBounds_toArray, List.set_cons_zero, List.set_cons_succ]
      refine wpAnyH_take (i := 39) (v := ?_) rfl (by kernel_rfl) (by kernel_rfl) (by kernel_rfl) (fun _ _ _ h => h) (Or.inl ⟨by rfl, ?_⟩) (by assumption) ?_
      rotate_left
      · intro w hSw
        (try dsimp only at hSw)
        go_simp
        try (with_reducible rfl)
      try simp only [Act.put, List.getElem_toArray, List.getElem_cons_zero, List.getElem_cons_succ, List.setIfInBounds_toArray, List.set_cons_zero, List.set_cons_succ]
      refine wpAnyH_take (i := 40) (v := ?_) rfl (by kernel_rfl) (by kernel_rfl) (by kernel_rfl) (fun _ _ _ h => h) (Or.inl ⟨by rfl, ?_⟩) (by assumption) ?_
      rotate_left
      · intro w hSw
        (try dsimp only at hSw)
        go_simp
        try (with_reducible rfl)
      try simp only [Act.put, List.getElem_toArray, List.getElem_cons_zero, List.getElem_cons_succ, List.setIfInBounds_toArray, List.set_cons_zero, List.set_cons_succ]
      refine wpAnyH_take (i := 41) (v := ?_) rfl (by kernel_rfl) (by kernel_rfl) (by kernel_rfl) (fun _ _ _ h => h) (Or.inl ⟨by rfl, ?_⟩) (by assumption) ?_
      rotate_left
      · intro w hSw
        (try dsimp only at hSw)
        go_simp
        try (with_reducible rfl)
      try simp only [Act.put, List.getElem_toArray, List.getElem_cons_zero, List.getElem_cons_succ, List.setIfInBounds_toArray, List.set_cons_zero, List.set_cons_succ]
      refine wpAnyH_take (i := 42) (v := ?_) rfl (by kernel_rfl) (by kernel_rfl) (by kernel_rfl) (fun _ _ _ h => h) (Or.inl ⟨by rfl, ?_⟩) (by assumption) ?_
      rotate_left
      · intro w hSw
        (try dsimp only at hSw)
        have c9 := hSw.2.2.1
        clear hSw
        go_simp
        try (with_reducible rfl)
      try simp only [Act.put, List.getElem_toArray, List.getElem_cons_zero, List.getElem_cons_succ, List.setIfInBounds_toArray, List.set_cons_zero, List.set_cons_succ]
      refine wpAnyH_take (i := 43) (v := ?_) rfl (by kernel_rfl) (by kernel_rfl) (by kernel_rfl) (fun _ _ _ h => h) (Or.inl ⟨by rfl, ?_⟩) (by assumption) ?_
      rotate_left
      · intro w hSw
        (try dsimp only at hSw)
        go_simp
        try (with_reducible rfl)
      try simp only [Act.put, List.getElem_toArray, List.getElem_cons_zero, List.getElem_cons_succ, List.setIfInBounds_toArray, List.set_cons_zero, List.set_cons_succ]
      have f1 : ¬ (y = g) := by have := HYZ.out; omega
      have f2 : (y == g) = false := by rw [beq_eq_false_iff_ne]; exact f1
      have f3 : ((y : Int) == (g : Int)) = false := by rw [beq_eq_false_iff_ne]; omega
      have f4 : decide (y = g) = false := decide_eq_false f1
      have f5 : ¬ ((y : Int) = (g : Int)) := by omega
      refine wpAnyH_take (i := 44) (v := ?_) rfl (by kernel_rfl) (by kernel_rfl) (by kernel_rfl) (fun _ _ _ h => h) (Or.inl ⟨by rfl, ?_⟩) (by assumption) ?_
      rotate_left
      · intro w hSw
        (try dsimp only at hSw)
        go_simp
        try (with_reducible rfl)
      try simp only [Act.put, List.getElem_toArray, List.getElem_cons_zero, List.getElem_cons_succ, List.setIfInBounds_toArray, List.set_cons_zero, List.set_cons_succ]
      refine wpAnyH_take (i := 45) (v := ?_) rfl (by kernel_rfl) (by kernel_rfl) (by kernel_rfl) (fun _ _ _ h => h) (Or.inl ⟨by rfl, ?_⟩) (by assumption) ?_
      rotate_left
      · intro w hSw
        (try dsimp only at hSw)
        go_simp
        try (with_reducible rfl)
      try simp only [Act.put, List.getElem_toArray, List.getElem_cons_zero, List.getElem_cons_succ, List.setIfInBounds_toArray, List.set_cons_zero, List.set_cons_succ]
      refine wpAnyH_take (i := 46) (v := ?_) rfl (by kernel_rfl) (by kernel_rfl) (by kernel_rfl) (fun _ _ _ h => h) (Or.inl ⟨by rfl, ?_⟩) (by assumption) ?_
      rotate_left
      · intro w hSw
        (try dsimp only at hSw)
        go_simp
        try (with_reducible rfl)
      try simp only [Act.put, List.getElem_toArray, List.getElem_cons_zero, List.getElem_cons_succ, List.setIfInBounds_toArray, List.set_cons_zero, List.set_cons_succ]
      clear f1 f2 f3 f4 f5
      refine wpAnyH_take (i := 47) (v := ?_) rfl (by kernel_rfl) (by kernel_rfl) (by kernel_rfl) (fun _ _ _ h => h) (Or.inl ⟨by rfl, ?_⟩) (by assumption) ?_
      rotate_left
      · intro w hSw
        (try dsimp only at hSw)
        go_simp
        try (with_reducible rfl)
      try simp only [Act.put, List.getElem_toArray, List.getElem_cons_zero, List.getElem_cons_succ, List.setIfInBounds_toArray, List.set_cons_zero, List.set_cons_succ]
      refine wpAnyH_take (i := 48) (v := ?_) rfl (by kernel_rfl) (by kernel_rfl) (by kernel_rfl) (fun _ _ _ h => h) (Or.inl ⟨by rfl, ?_⟩) (by assumption) ?_
      rotate_left
      · intro w hSw
        (try dsimp only at hSw)
        go_simp
        try (with_reducible rfl)
      try simp only [Act.put, List.getElem_toArray, List.getElem_cons_zero, List.getElem_cons_succ, List.setIfInBounds_toArray, List.set_cons_zero, List.set_cons_succ]
      refine wpAnyH_take (i := 49) (v := ?_) rfl (by kernel_rfl) (by kernel_rfl) (by kernel_rfl) (fun _ _ _ h => h) (Or.inl ⟨by rfl, ?_⟩) (by assumption) ?_
      rotate_left
      · intro w hSw
        (try dsimp only at hSw)
        have c9 := hSw.2.2.2.1
        clear hSw
        go_simp
        try (with_reducible rfl)
      try simp only [Act.put, List.getElem_toArray, List.getElem_cons_zero, List.getElem_cons_succ, List.setIfInBounds_toArray, List.set_cons_zero, List.set_cons_succ]
      refine wpAnyH_take (i := 50) (v := ?_) rfl (by kernel_rfl) (by kernel_rfl) (by kernel_rfl) (fun _ _ _ h => h) (Or.inl ⟨by rfl, ?_⟩) (by assumption) ?_
      rotate_left
      · intro w hSw
        (try dsimp only at hSw)
        go_simp
        try (with_reducible rfl)
      try simp only [Act.put, List.getElem_toArray, List.getElem_cons_zero, List.getElem_cons_succ, List.setIfInBounds_toArray, List.set_cons_zero, List.set_cons_succ]
      have f1 : ¬ (z = g) := by have := HYZ.out; omega
      have f2 : (z == g) = false := by rw [beq_eq_false_iff_ne]; exact f1
      have f3 : ((z : Int) == (g : Int)) = false := by rw [beq_eq_false_iff_ne]; omega
      have f4 : decide (z = g) = false := decide_eq_false f1
      have f5 : ¬ ((z : Int) = (g : Int)) := by omega
      refine wpAnyH_take (i := 51) (v := ?_) rfl (by kernel_rfl) (by kernel_rfl) (by kernel_rfl) (fun _ _ _ h => h) (Or.inl ⟨by rfl, ?_⟩) (by assumption) ?_
      rotate_left
      · intro w hSw
        (try dsimp only at hSw)
        go_simp
        try (with_reducible rfl)
      try simp only [Act.put, List.getElem_toArray, List.getElem_cons_zero, List.getElem_cons_succ, List.setIfInBounds_toArray, List.set_cons_zero, List.set_cons_succ]
      refine wpAnyH_take (i := 52) (v := ?_) rfl (by kernel_rfl) (by kernel_rfl) (by kernel_rfl) (fun _ _ _ h => h) (Or.inl ⟨by rfl, ?_⟩) (by assumption) ?_
      rotate_left
      · intro w hSw
        (try dsimp only at hSw)
        go_simp
        try (with_reducible rfl)
      try simp only [Act.put, List.getElem_toArray, List.getElem_cons_zero, List.getElem_cons_succ, List.setIfInBounds_toArray, List.set_cons_zero, List.set_cons_succ]
      refine wpAnyH_take (i := 53) (v := ?_) rfl (by kernel_rfl) (by kernel_rfl) (by kernel_rfl) (fun _ _ _ h => h) (Or.inl ⟨by rfl, ?_⟩) (by assumption) ?_
      rotate_left
      · intro w hSw
        (try dsimp only at hSw)
        go_simp
        try (with_reducible rfl)
      try simp only [Act.put, List.getElem_toArray, List.getElem_cons_zero, List.getElem_cons_succ, List.setIfInBounds_toArray, List.set_cons_zero, List.set_cons_succ]
      clear f1 f2 f3 f4 f5
      refine wpAnyH_take (i := 54) (v := ?_) rfl (by kernel_rfl) (by kernel_rfl) (by kernel_rfl) (fun _ _ _ h => h) (Or.inl ⟨by rfl, ?_⟩) (by assumption) ?_
      rotate_left
      · intro w hSw
        (try dsimp only at hSw)
        go_simp
        try (with_reducible rfl)
      try simp only [Act.put, List.getElem_toArray, List.getElem_cons_zero, List.getElem_cons_succ, List.setIfInBounds_toArray, List.set_cons_zero, List.set_cons_succ]
      refine wpAnyH_take (i := 55) (v := ?_) rfl (by kernel_rfl) (by kernel_rfl) (by kernel_rfl) (fun _ _ _ h => h) (Or.inl ⟨by rfl, ?_⟩) (by assumption) ?_
      rotate_left
      · intro w hSw
        (try dsimp only at hSw)
        go_simp
        try (with_reducible rfl)
      try simp only [Act.put, List.getElem_toArray, List.getElem_cons_zero, List.getElem_cons_succ, List.setIfInBounds_toArray, List.set_cons_zero, List.set_cons_succ]
      refine wpAnyH_take (i := 56) (v := ?_) rfl (by kernel_rfl) (by kernel_rfl) (by kernel_rfl) (fun _ _ _ h => h) (Or.inl ⟨by rfl, ?_⟩) (by assumption) ?_
      rotate_left
      · intro w hSw
        (try dsimp only at hSw)
        have c9 := hSw.2.2.1
        clear hSw
        go_simp
        try (with_reducible rfl)
      try simp only [Act.put, List.getElem_toArray, List.getElem_cons_zero, List.getElem_cons_succ, List.setIfInBounds_toArray, List.set_cons_zero, List.set_cons_succ]
      refine wpAnyH_take (i := 57) (v := ?_) rfl (by kernel_rfl) (by kernel_rfl) (by kernel_rfl) (fun _ _ _ h => h) (Or.inl ⟨by rfl, ?_⟩) (by assumption) ?_
      rotate_left
      · intro w hSw
        (try dsimp only at hSw)
        go_simp
        try (with_reducible rfl)
      try simp only [Act.put, List.getElem_toArray, List.getElem_cons_zero, List.getElem_cons_succ, List.setIfInBounds_toArray, List.set_cons_zero, List.set_cons_succ]
      refine wpAnyH_take (i := 58) (v := ?_) rfl (by kernel_rfl) (by kernel_rfl) (by kernel_rfl) (fun _ _ _ h => h) (Or.inl ⟨by rfl, ?_⟩) (by assumption) ?_
      rotate_left
      · intro w hSw
        (try dsimp only at hSw)
        go_simp
        try (with_reducible rfl)
      try simp only [Act.put, List.getElem_toArray, List.getElem_cons_zero, List.getElem_cons_succ, List.setIfInBounds_toArray, List.set_cons_zero, List.set_cons_succ]
      refine wpAnyH_take (i := 59) (v := ?_) rfl (by kernel_rfl) (by kernel_rfl) (by kernel_rfl) (fun _ _ _ h => h) (Or.inl ⟨by rfl, ?_⟩) (by assumption) ?_
      rotate_left
      · intro w hSw
        (try dsimp only at hSw)
        have c9 := hSw.2.2.2.1
        clear hSw
        go_simp
        try (with_reducible rfl)
      try simp only [Act.put, List.getElem_toArray, List.getElem_cons_zero, List.getElem_cons_succ, List.setIfInBounds_toArray, List.set_cons_zero, List.set_cons_succ]
      have f1 : ¬ ((y : Int) ≥ (z : Int)) := by have := HYZ.out; omega
      have f2 : decide ((y : Int) ≥ (z : Int)) = false := decide_eq_false f1
      have f3 : ¬ ((z : Int) ≤ (y : Int)) := by have := HYZ.out; omega
      have f4 : decide ((z : Int) ≤ (y : Int)) = false := decide_eq_false f3
      have f5 : ¬ (z ≤ y) := by have := HYZ.out; omega
      have f6 : decide (z ≤ y) = false := decide_eq_false f5
      refine wpAnyH_take (i := 60) (v := ?_) rfl (by kernel_rfl) (by kernel_rfl) (by kernel_rfl) (fun _ _ _ h => h) (Or.inl ⟨by rfl, ?_⟩) (by assumption) ?_
      rotate_left
      · intro w hSw
        (try dsimp only at hSw)
        go_simp
        try (with_reducible rfl)
      try simp only [Act.put, List.getElem_toArray, List.getElem_cons_zero, List.getElem_cons_succ, List.setIfInBounds_toArray, List.set_cons_zero, List.set_cons_succ]
      refine wpAnyH_take (i := 61) (v := ?_) rfl (by kernel_rfl) (by kernel_rfl) (by kernel_rfl) (fun _ _ _ h => h) (Or.inl ⟨by rfl, ?_⟩) (by assumption) ?_
      rotate_left
      · intro w hSw
        (try dsimp only at hSw)
        go_simp
        try (with_reducible rfl)
      try simp only [Act.put, List.getElem_toArray, List.getElem_cons_zero, List.getElem_cons_succ, List.setIfInBounds_toArray, List.set_cons_zero, List.set_cons_succ]
      refine wpAnyH_take (i := 62) (v := ?_) rfl (by kernel_rfl) (by kernel_rfl) (by kernel_rfl) (fun _ _ _ h => h) (Or.inl ⟨by rfl, ?_⟩) (by assumption) ?_
      rotate_left
      · intro w hSw
        (try dsimp only at hSw)
        go_simp
        try (with_reducible rfl)
      try simp only [Act.put, List.getElem_toArray, List.getElem_cons_zero, List.getElem_cons_succ, List.setIfInBounds_toArray, List.set_cons_zero, List.set_cons_succ]
      clear f1 f2 f3 f4 f5 f6
      refine wpAnyH_take (i := 63) (v := ?_) rfl (by kernel_rfl) (by kernel_rfl) (by kernel_rfl) (fun _ _ _ h => h) (Or.inl ⟨by rfl, ?_⟩) (by assumption) ?_
      rotate_left
      · intro w hSw
        (try dsimp only at hSw)
        go_simp
        try (with_reducible rfl)
      try simp only [Act.put, List.getElem_toArray, List.getElem_cons_zero, List.getElem_cons_succ, List.setIfInBounds_toArray, List.set_cons_zero, List.set_cons_succ]
      refine wpAnyH_take (i := 64) (v := ?_) rfl (by kernel_rfl) (by kernel_rfl) (by kernel_rfl) (fun _ _ _ h => h) (Or.inl ⟨by rfl, ?_⟩) (by assumption) ?_
      rotate_left
      · intro w hSw
        (try dsimp only at hSw)
        go_simp
        try (with_reducible rfl)
      try simp only [Act.put, List.getElem_toArray, List.getElem_cons_zero, List.getElem_cons_succ, List.setIfInBounds_toArray, List.set_cons_zero, List.set_cons_succ]
      refine wpAnyH_take (i := 65) (v := ?_) rfl (by kernel_rfl) (by kernel_rfl) (by kernel_rfl) (fun _ _ _ h => h) (Or.inl ⟨by rfl, ?_⟩) (by assumption) ?_
      rotate_left
      · intro w hSw
        (try dsimp only at hSw)
        go_simp
        try (with_reducible rfl)
      try simp only [Act.put, List.getElem_toArray, List.getElem_cons_zero, List.getElem_cons_succ, List.setIfInBounds_toArray, List.set_cons_zero, List.set_cons_succ]
      refine wpAnyH_take (i := 66) (v := ?_) rfl (by kernel_rfl) (by kernel_rfl) (by kernel_rfl) (fun _ _ _ h => h) (Or.inl ⟨by rfl, ?_⟩) (by assumption) ?_
      rotate_left
      · intro w hSw
        (try dsimp only at hSw)
        have c9 := hSw.2.1
        clear hSw
        go_simp
        try (with_reducible rfl)
      try simp only [Act.put, List.getElem_toArray, List.getElem_cons_zero, List.getElem_cons_succ, List.setIfInBounds_toArray, List.set_cons_zero, List.set_cons_succ]
      refine wpAnyH_take (i := 67) (v := ?_) rfl (by kernel_rfl) (by kernel_rfl) (by kernel_rfl) (fun _ _ _ h => h) (Or.inl ⟨by rfl, ?_⟩) (by assumption) ?_
      rotate_left
      · intro w hSw
        (try dsimp only at hSw)
        go_simp
        try (with_reducible rfl)
      try simp only [Act.put, List.getElem_toArray, List.getElem_cons_zero, List.getElem_cons_succ, List.setIfInBounds_toArray, List.set_cons_zero, List.set_cons_succ]
      refine wpAnyH_take (i := 68) (v := ?_) rfl (by kernel_rfl) (by kernel_rfl) (by kernel_rfl) (fun _ _ _ h => h) (Or.inl ⟨by rfl, ?_⟩) (by assumption) ?_
      rotate_left
      · intro w hSw
        (try dsimp only at hSw)
        have c9 := hSw.2.2.2.2.1
        clear hSw
        go_simp
        try (with_reducible rfl)
      try simp only [Act.put, List.getElem_toArray, List.getElem_cons_zero, List.getElem_cons_succ, List.setIfInBounds_toArray, List.set_cons_zero, List.set_cons_succ]
      refine wpAnyH_take (i := 69) (v := ?_) rfl (by kernel_rfl) (by kernel_rfl) (by kernel_rfl) (fun _ _ _ h => h) (Or.inl ⟨by rfl, ?_⟩) (by assumption) ?_
      rotate_left
      · intro w hSw
        (try dsimp only at hSw)
        go_simp
        try (with_reducible rfl)
      try simp only [Act.put, List.getElem_toArray, List.getElem_cons_zero, List.getElem_cons_succ, List.setIfInBounds_toArray, List.set_cons_zero, List.set_cons_succ]
      refine wpAnyH_take (i := 70) (v := ?_) rfl (by kernel_rfl) (by kernel_rfl) (by kernel_rfl) (fun _ _ _ h => h) (Or.inl ⟨by rfl, ?_⟩) (by assumption) ?_
      rotate_left
      · intro w hSw
        (try dsimp only at hSw)
        go_simp
        try (with_reducible rfl)
      try simp only [Act.put, List.getElem_toArray, List.getElem_cons_zero, List.getElem_cons_succ, List.setIfInBounds_toArray, List.set_cons_zero, List.set_cons_succ]
      have f1 : wrap64 (3 - (g : Int)) = (o1 : Int) := wrap_atS (by have := HF.out; omega) (by omega) (by have := HF.out; omega)
      have f2 : IntKind.i64.wrap (3 - (g : Int)) = (o1 : Int) := (IntWalk.i64_left _).trans f1
      refine wpAnyH_take (i := 71) (v := ?_) rfl (by kernel_rfl) (by kernel_rfl) (by kernel_rfl) (fun _ _ _ h => h) (Or.inl ⟨by rfl, ?_⟩) (by assumption) ?_
      rotate_left
      · intro w hSw
        (try dsimp only at hSw)
        go_simp
        try (with_reducible rfl)
      try simp only [Act.put, List.getElem_toArray, List.getElem_cons_zero, List.getElem_cons_succ, List.setIfInBounds_toArray, List.set_cons_zero, List.set_cons_succ]
      clear f1 f2
      refine wpAnyH_take (i := 72) (v := ?_) rfl (by kernel_rfl) (by kernel_rfl) (by kernel_rfl) (fun _ _ _ h => h) (Or.inl ⟨by rfl, ?_⟩) (by assumption) ?_
      rotate_left
      · intro w hSw
        (try dsimp only at hSw)
        go_simp
        try (with_reducible rfl)
      try simp only [Act.put, List.getElem_toArray, List.getElem_cons_zero, List.getElem_cons_succ, List.setIfInBounds_toArray, List.set_cons_zero, List.set_cons_succ]
      refine wpAnyH_take (i := 73) (v := ?_) rfl (by kernel_rfl) (by kernel_rfl) (by kernel_rfl) (fun _ _ _ h => h) (Or.inl ⟨by rfl, ?_⟩) (by assumption) ?_
      rotate_left
      · intro w hSw
        (try dsimp only at hSw)
        go_simp
        try (with_reducible rfl)
      try simp only [Act.put, List.getElem_toArray, List.getElem_cons_zero, List.getElem_cons_succ, List.setIfInBounds_toArray, List.set_cons_zero, List.set_cons_succ]
      refine wpAnyH_take (i := 74) (v := ?_) rfl (by kernel_rfl) (by kernel_rfl) (by kernel_rfl) (fun _ _ _ h => h) (Or.inl ⟨by rfl, ?_⟩) (by assumption) ?_
      rotate_left
      · intro w hSw
        (try dsimp only at hSw)
        have c9 := hSw.2.1
        clear hSw
        go_simp
        try (with_reducible rfl)
      try simp only [Act.put, List.getElem_toArray, List.getElem_cons_zero, List.getElem_cons_succ, List.setIfInBounds_toArray, List.set_cons_zero, List.set_cons_succ]
      have f1 : wrap64 ((o1 : Int) - (qb : Int)) = (o : Int) := wrap_atS (by have := HF.out; omega) (by omega) (by have := HF.out; omega)
      have f2 : IntKind.i64.wrap ((o1 : Int) - (qb : Int)) = (o : Int) := (IntWalk.i64_left _).trans f1
      refine wpAnyH_take (i := 75) (v := ?_) rfl (by kernel_rfl) (by kernel_rfl) (by kernel_rfl) (fun _ _ _ h => h) (Or.inl ⟨by rfl, ?_⟩) (by assumption) ?_
      rotate_left
      · intro w hSw
        (try dsimp only at hSw)
        go_simp
        try (with_reducible rfl)
      try simp only [Act.put, List.getElem_toArray, List.getElem_cons_zero, List.getElem_cons_succ, List.setIfInBounds_toArray, List.set_cons_zero, List.set_cons_succ]
      clear f1 f2
      refine wpAnyH_take (i := 76) (v := ?_) rfl (by kernel_rfl) (by kernel_rfl) (by kernel_rfl) (fun _ _ _ h => h) (Or.inl ⟨by rfl, ?_⟩) (by assumption) ?_
      rotate_left
      · intro w hSw
        (try dsimp only at hSw)
        go_simp
        try (with_reducible rfl)
      try simp only [Act.put, List.getElem_toArray, List.getElem_cons_zero, List.getElem_cons_succ, List.setIfInBounds_toArray, List.set_cons_zero, List.set_cons_succ]
      refine wpAnyH_take (i := 77) (v := ?_) rfl (by kernel_rfl) (by kernel_rfl) (by kernel_rfl) (fun _ _ _ h => h) (Or.inl ⟨by rfl, ?_⟩) (by assumption) ?_
      rotate_left
      · intro w hSw
        (try dsimp only at hSw)
        have c9 := hSw.2.2.2.2.2
        clear hSw
        go_simp
        try (with_reducible rfl)
      try simp only [Act.put, List.getElem_toArray, List.getElem_cons_zero, List.getElem_cons_succ, List.setIfInBounds_toArray, List.set_cons_zero, List.set_cons_succ]
      have f1 : ¬ (mq > mo) := by have := HF.out; omega
      have f2 : decide (mq > mo) = false := decide_eq_false f1
      have f3 : ¬ (mo < mq) := by have := HF.out; omega
      have f4 : decide (mo < mq) = false := decide_eq_false f3
      refine wpAnyH_take (i := 78) (v := ?_) rfl (by kernel_rfl) (by kernel_rfl) (by kernel_rfl) (fun _ _ _ h => h) (Or.inl ⟨by rfl, ?_⟩) (by assumption) ?_
      rotate_left
      · intro w hSw
        (try dsimp only at hSw)
        go_simp
        try (with_reducible rfl)
      try simp only [Act.put, List.getElem_toArray, List.getElem_cons_zero, List.getElem_cons_succ, List.setIfInBounds_toArray, List.set_cons_zero, List.set_cons_succ]
      refine wpAnyH_take (i := 79) (v := ?_) rfl (by kernel_rfl) (by kernel_rfl) (by kernel_rfl) (fun _ _ _ h => h) (Or.inl ⟨by rfl, ?_⟩) (by assumption) ?_
      rotate_left
      · intro w hSw
        (try dsimp only at hSw)
        go_simp
        try (with_reducible rfl)
      try simp only [Act.put, List.getElem_toArray, List.getElem_cons_zero, List.getElem_cons_succ, List.setIfInBounds_toArray, List.set_cons_zero, List.set_cons_succ]
      clear f1 f2 f3 f4
      refine wpAnyH_done (by kernel_rfl) ?_ _
      go_wp2
      go_roundw
      case rel => exact ⟨i + 1, (b : Int), by have := HI.out; omega, by first | rfl | (rw [HIW.out]) | go_num, by first | rfl | trivial, HNX⟩
      case measure => (try rw [HIW.out]); have := HI.out; simp [intOf]; omega
    · have i1 : ¬ ((i : Int) < (R : Int)) := by omega
      obtain ⟨g9, hg9, -, -, -, hcc, hff⟩ := HMO.out.block (by omega)
      obtain ⟨rfl⟩ : gm = g9 := by injection hg9 with hg9; injection hg9
      have y1 := hcc g HG.out
      have y2 := hff g
      have gi1 : (g : Int) < 3 := by have := HG.out; omega
      have gi2 : (0 : Int) ≤ (g : Int) := by omega
      obtain ⟨ms2, hms2⟩ : ∃ x, ms.set g 0 = x := ⟨_, rfl⟩
      have hlen2 : ms2.length = 3 := by rw [← hms2, List.length_set]; exact HGAP.out.len
      have hg2 : ms2.getD g 0 = 0 := by
        rw [← hms2]
        simp only [List.getD_eq_getElem?_getD]
        rw [List.getElem?_set_self (by rw [HGAP.out.len]; exact HG.out)]
        rfl
      have hu2 : ∀ j : Nat, j < 3 → 0 ≤ ms2.getD j 0 := fun j hj => by
        by_cases e : j = g
        · rw [e, hg2]; omega
        · have := HGAP.out.yes j hj e
          rw [← hms2]
          simp only [List.getD_eq_getElem?_getD, List.getElem?_set_ne (Ne.symm e)] at this ⊢
          exact this
      have hnn : ¬ NoneU ms2 := fun h => by have h1 := h 0 (by omega); have h2 := hu2 0 (by omega); omega
      obtain ⟨qb, hqb⟩ := quick_ex hnn
      have hq0 : ms2.getD qb 0 = 0 := by
        have h1 := (hqb.least g (by rw [hlen2]; exact HG.out) (hu2 g HG.out)).1
        have h2 := hqb.us
        omega
      obtain ⟨b, hb⟩ : ∃ b : Nat, (l + 1) % 3 = (b : Int) := ⟨((l + 1) % 3).toNat, by have := HLR.out; omega⟩
      have hRP := round_3 hlen2 hu2 HLR.out hb
      have hca := canF_allU (ms := ms2) (i := 3) hu2
      have hcan : can ms2 = canF ms2 3 := by unfold can; rw [hlen2]
      rw [← hcan] at hca
      obtain ⟨wS, hwS⟩ : ∃ x, wr.setCell ⟨gm, g, none⟩ (.int .i64 0) = x := ⟨_, rfl⟩
      have HMS : Hid (Own .i64 3 wS W.heap.size (.slice (some ⟨gm, 0, none⟩) 3 3) ms2) := Lib.hid (by rw [← hwS, ← hms2]; exact HMO.out.stored HGAP.out.len g 0)
      have HTS : Hid (TT W wS b1 b2 b3 l) := Lib.hid (by rw [← hwS]; exact HTT.out.row HMO.out (setCell_one wr gm g _))
      have HP1 := Lib.hid (HTS.out.pick1 (c := 3) hlen2 HMS.out.rd (by omega) (L := [(b : Int)]) (l0 := (b : Int)) (N := 1) (.inr ⟨hnn, .inr (.inl ⟨rfl, b, hRP, rfl, rfl⟩)⟩) rfl)
      have HPQ : Hid (IsPick 1 (-1) ms2 [(qb : Int)] (-1)) := Lib.hid (.inr ⟨hnn, .inr (.inr ⟨by decide, by decide, qb, hqb, rfl, rfl⟩)⟩)
      have HPC : Hid (IsPick 3 (-1) ms2 (can ms2) (-1)) := Lib.hid (.inr ⟨hnn, .inl ⟨rfl, rfl, rfl⟩⟩)
      have HCL := Lib.hid hca.1
      have HLN2 := Lib.hid hlen2
      have HQL := Lib.hid (show qb < 3 by have := hqb.lt; omega)
      have HQ0 := Lib.hid hq0
      have HL1 := Lib.hid (show wrap64 (l + 1) = l + 1 from wrap_atS rfl (by have := HLR.out; omega) (by have := HLR.out; omega))
      have HR1 := Lib.hid (show (l + 1).tmod 3 = (b : Int) by rw [Int.tmod_eq_emod_of_nonneg (by have := HLR.out; omega)]; exact hb)
      clear hg9 hcc hff hms2 hlen2 hg2 hu2 hnn hqb hq0 hb hRP hca hcan hi hiR hlr HMO HTT
      go_wp2_with fail
      refine HP1.out.mono ?_
      rintro e w5 ⟨A5, c5, rfl, ho5, ht5, hsc5⟩
      have HM5 := Lib.hid (HTS.out.own1 hsc5 HMS.out)
      have HX5 := Lib.hid ho5
      have HT5 := Lib.hid ht5
      have HP2 := Lib.hid (ht5.pick2 (c := 3) HLN2.out HM5.out.rd (by omega) (N := 1) HPQ.out rfl)
      clear ho5 ht5 hsc5 HP1 HTS HMS y1 y2 hwS i1
      go_wp2_with fail
      refine HP2.out.mono ?_
      rintro e w6 ⟨A6, c6, rfl, ho6, ht6, hsc6⟩
      have HM6 := Lib.hid (HT5.out.own2 hsc6 HM5.out)
      have HX6 := Lib.hid (HT5.out.own2 hsc6 HX5.out)
      have HP3 := Lib.hid (ht6.pick3 (c := 3) HLN2.out HM6.out.rd (by omega) (N := 3) HPC.out HCL.out)
      obtain ⟨gx, rfl, -, -, -, hcx, -⟩ := HX6.out.block (by omega)
      obtain ⟨gy, rfl, -, -, -, hcy, -⟩ := ho6.block (by omega)
      obtain ⟨g9, hg9, -, -, -, hcm, -⟩ := HM6.out.block (by omega)
      obtain ⟨rfl⟩ : gm = g9 := by injection hg9 with hg9; injection hg9
      have x0 : w6.cell? ⟨gx, 0, none⟩ = some (.int .i64 (b : Int)) := hcx 0 (by omega)
      have y0 : w6.cell? ⟨gy, 0, none⟩ = some (.int .i64 (qb : Int)) := hcy 0 (by omega)
      have m0 : w6.cell? ⟨gm, qb, none⟩ = some (.int .i64 0) := by rw [hcm qb HQL.out, HQ0.out]
      have q1 : (qb : Int) < 3 := by have := HQL.out; omega
      have q2 : (0 : Int) ≤ (qb : Int) := by omega
      have e1 := HL1.out
      have e2 := HR1.out
      clear ho6 ht6 hsc6 hcx hcy hg9 hcm HP2 HT5 HM5 HX5 gi1 gi2
      go_wp2_with fail
      refine HP3.out.mono ?_
      rintro e w7 ⟨A7, c7, rfl, -, ht7, -⟩
      have HB7 := Lib.hid ht7.bel
      clear ht7 HP3 x0 y0 m0 e1 e2
      go_wp2_with fail
      refine (wakesS17_any _).mono ?_
      rintro e w8 ⟨rfl, hb⟩
      have HFIN := Lib.hid (HB7.out.trans (hb.mono HB7.out.size))
      clear hb
      go_wp2
      go_ret
      exact ⟨rfl, HFIN.out⟩
end Go.Proofs.Ytffofgockddpiaa
