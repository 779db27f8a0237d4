/-
  The walk of InboxPlays.
-/
import Derived.Test.YtlljfinagjdihaaInPlays
import Derived.Test.YtlljfinagjdihaaDocIn4
import Derived.Test.YtlljfinagjdihaaArgQ
import Derived.Test.YtlljfinagjdihaaWithin
import Derived.Test.YtlljfinagjdihaaLend
import Derived.Deep.LoopGhost
import Derived.Deep.CutBlock
import Derived.Deep.DeepCutAuto
namespace Go.Proofs.Ytlljfinagjdihaa
open Go.RowKit

/-- At the loop's head. -/
def QHead (W wr : World) (p b k : Nat) : Prop := ∃ (F D : Nat → Prop) (s : In), PM W wr p F b D s s ∧ Few s (25 * (k : Int))
theorem PM.front {w0 w : World} {p b : Nat} {F D : Nat → Prop} {s d : In} (h : PM w0 w p F b D s d) : ∃ f, Front s.g f ∧ s.tk ≤ f := by
  obtain ⟨B, _, h1⟩ := h.im
  obtain ⟨q, g, n, v, xs, ps, h2, _⟩ := h1.h
  exact ⟨_, h2.front, In.front_tk h2.ok h2.front⟩
theorem wrap64_in (x : Int) : -9223372036854775808 ≤ wrap64 x ∧ wrap64 x ≤ 9223372036854775807 := by unfold wrap64; omega

set_option maxRecDepth 100000 in
set_option maxHeartbeats 8000000 in
theorem inboxPlays_walk (a0 : Int) (a1 : Option Addr) (len1 cap1 : Nat) (X1 : List ActI) (W : World) (h1 : ArgQ W a1 len1 cap1 X1) :
    Calls Try.prog 6 #[.int .i64 a0, .slice a1 len1 cap1] W fun e W' => e = .returned (.bool true) ∧ Below W.heap.size W W' := by
  have HA := Lib.hid h1
  have HLC := Lib.hid (And.intro h1.le h1.reach)
  have HW0 := Lib.hid (fun w => within_any a0 40 w (by omega) (by omega))
  clear h1
  go_enter Try.func6, Try.ntmps6
  go_upto_if 16 with (fail)
  go_cut [0] (fun s0 wx => ∃ m : Int, s0 = .int .i64 m ∧ W = wx)
  case first =>
    by_cases h7 : a0.tmod 7 = 6
    · go_wp2
      go_meet
      exact ⟨_, rfl, rfl⟩
    · go_wp2_with fail
      refine (HW0.out _).mono ?_
      rintro e w2 ⟨rfl, rfl⟩
      go_wp2
      go_meet
      exact ⟨_, rfl, rfl⟩
  case rest =>
  obtain ⟨m, rfl, rfl⟩ := hcut
  clear HW0
  go_wp2_with fail
  refine (im_new m W).mono ?_
  rintro e w1 ⟨p, F, rfl, hi, hb1⟩
  have HI := Lib.hid hi
  have HB1 := Lib.hid hb1
  clear hi hb1
  go_wp2_with fail
  refine (newdi_any m w1).mono ?_
  rintro e w2 ⟨rfl, hd, hb2⟩
  obtain ⟨r, hr⟩ : ∃ r, w1.heap.size = r := ⟨_, rfl⟩
  have H0 : Hid (QHead W w2 p r 0) := Lib.hid (by
    have hs := PM.start HI.out HB1.out hd hb2
    rw [hr] at hs
    exact ⟨_, _, _, hs, Few.new m⟩)
  rw [hr]
  clear hd hb2 hr HI HB1
  go_wp2_with fail
  go_loopw [7] (fun kv wr => ∃ k : Nat, k ≤ 30 ∧ kv = .int .i64 k ∧ Hid (QHead W wr p r k)) (fun kv _ => 30 - (intOf kv).toNat)
  case atStart => exact ⟨0, by omega, rfl, H0⟩
  case round =>
    clear H0
    obtain ⟨k, hk30, rfl, hhd⟩ := hrel
    by_cases hlt : k < len1 ∧ k < 30
    · obtain ⟨t1, t2⟩ := hlt
      obtain ⟨F, D, s, hpm, hfew⟩ := hhd.out
      clear hhd
      obtain ⟨ba, off, rfl, hcell⟩ := HA.out.cell (by omega)
      obtain ⟨x, hx⟩ : ∃ x, X1[k]? = some x := ⟨X1[k]'(by rw [HA.out.len]; exact t1), List.getElem?_eq_getElem _⟩
      obtain ⟨c0, c1, c2, c3, c4⟩ := hcell k x hx
      have hat := HA.out.each x (List.mem_of_getElem? hx)
      have d0 := cell_later hpm.bel c0
      have d1 := cell_later hpm.bel c1
      have d2 := cell_later hpm.bel c2
      have d3 := cell_later hpm.bel c3
      have d4 := cell_later hpm.bel c4
      have i1 : (k : Int) < (len1 : Int) := by omega
      have i2 : (k : Int) < 30 := by omega
      have i3 : (0 : Int) ≤ (k : Int) := by omega
      have HKW := Lib.hid (show wrap64 ((k : Int) + 1) = ((k + 1 : Nat) : Int) from wrap_at (by omega) (by omega) (by omega))
      have HKK := Lib.hid t2
      have HXX := Lib.hid hat
      obtain ⟨xl, hxl⟩ : ∃ xl, x.xs.length = xl := ⟨_, rfl⟩
      rw [hxl] at d3
      have HXL := Lib.hid hxl
      have HPM := Lib.hid hpm
      obtain ⟨nd, hnd⟩ : ∃ nd, x.d = nd := ⟨_, rfl⟩
      obtain ⟨nf, hnf⟩ : ∃ nf, x.f = nf := ⟨_, rfl⟩
      obtain ⟨nn, hnn⟩ : ∃ nn, x.n = nn := ⟨_, rfl⟩
      obtain ⟨xA, hxA⟩ : ∃ xA, x.A = xA := ⟨_, rfl⟩
      obtain ⟨xc, hxc⟩ : ∃ xc, x.c = xc := ⟨_, rfl⟩
      obtain ⟨xb, hxb⟩ : ∃ xb, x.fin = xb := ⟨_, rfl⟩
      rw [hnd] at d0
      rw [hnf] at d1
      rw [hnn] at d2
      rw [hxA, hxc] at d3
      rw [hxb] at d4
      have HXA := Lib.hid hxA
      have HXC := Lib.hid hxc
      -- the numbers that both hold
      obtain ⟨fr, hfr, htf⟩ := hpm.front
      have hfN := hfew.front hpm.ok hfr
      have HFEW := Lib.hid hfew
      have HFR := Lib.hid hfr
      have HS := Lib.hid (show s.tk ≤ fr ∧ fr ≤ 750 ∧ 0 ≤ s.tk ∧ s.tk + s.win ≤ 8192 by
        have h1 := hpm.ok.t0
        have h2 := hpm.ok.w1
        omega)
      clear hcell hx c0 c1 c2 c3 c4 hat hxl hpm hnd hnf hnn hxA hxc hxb hfr htf hfN hfew t1 t2 hk30
      go_wp2_with fail
      refine (within_any nd 4 _ (by omega) (by omega)).mono ?_
      rintro e w3 ⟨rfl, rfl⟩
      have e1 : (wr.alloc (.cells #[.int .i64 nd, .int .i64 nf, .int .i64 nn, .slice xA xl xc, .bool xb] 38)).cell? ⟨wr.heap.size, 0 + 1, none⟩ = some (.int .i64 nf) := by go_simp
      have e2 : (wr.alloc (.cells #[.int .i64 nd, .int .i64 nf, .int .i64 nn, .slice xA xl xc, .bool xb] 38)).cell? ⟨wr.heap.size, 0 + 2, none⟩ = some (.int .i64 nn) := by go_simp
      have e3 : (wr.alloc (.cells #[.int .i64 nd, .int .i64 nf, .int .i64 nn, .slice xA xl xc, .bool xb] 38)).cell? ⟨wr.heap.size, 0 + 3, none⟩ = some (.slice xA xl xc) := by go_simp
      have e4 : (wr.alloc (.cells #[.int .i64 nd, .int .i64 nf, .int .i64 nn, .slice xA xl xc, .bool xb] 38)).cell? ⟨wr.heap.size, 0 + 4, none⟩ = some (.bool xb) := by go_simp
      obtain ⟨w3, hw3⟩ : ∃ w3, wr.alloc (.cells #[.int .i64 nd, .int .i64 nf, .int .i64 nn, .slice xA xl xc, .bool xb] 38) = w3 := ⟨_, rfl⟩
      obtain ⟨z, hz⟩ : ∃ z, wr.heap.size = z := ⟨_, rfl⟩
      rw [hw3, hz] at e1 e2 e3 e4
      have HB3 : Hid (Below wr.heap.size wr w3) := Lib.hid (by rw [← hw3]; exact (Below.refl _ _).alloc (Nat.le_refl _) _)
      have H3 := Lib.hid (HPM.out.later HB3.out)
      have HRD : Hid (Rd .u8 w3 xA x.xs) := Lib.hid (by
        have := HXX.out.rd
        rw [HXA.out] at this
        exact this.later H3.out.bel)
      rw [hw3, hz]
      clear hw3 hz d0 d1 d2 d3 d4 HPM HB3
      go_upto_if 42 with (fail)
      go_cut [] (fun wx => ∃ wz, wz = wx ∧ Hid (QHead W wz p r (k + 1)))
      case first =>
        by_cases hM : nd % 4 = 3
        · clear e1 e3 e4 HRD
          go_wp2_with fail
          refine (within_any nn 30 _ (by omega) (by omega)).mono ?_
          rintro e w4 ⟨rfl, rfl⟩
          go_upto_if 50 with (fail)
          go_cut [9] (fun nv wx => ∃ n : Int, nv = .int .i64 n ∧ wx = w3)
          case first =>
            by_cases h13 : nn.tmod 13 = 12
            · go_wp2
              go_meet
              exact ⟨_, rfl, rfl⟩
            · go_wp2
              go_meet
              exact ⟨_, rfl, rfl⟩
          case rest =>
          obtain ⟨n, rfl, rfl⟩ := hcut
          clear e2
          obtain ⟨k1, hk1⟩ : ∃ k1 : Nat, (k1 : Int) = min (max n 0) (fr - s.tk) := ⟨(min (max n 0) (fr - s.tk)).toNat, by have := HS.out; omega⟩
          have HR1 := Lib.hid (H3.out.read1 (m := n) HFR.out k1 hk1 (by have := HS.out; omega))
          have HK1 := Lib.hid hk1
          clear hk1
          go_wp2_with fail
          refine HR1.out.mono ?_
          rintro e w5 ⟨A1, c1, L1, rfl, ho1, hr1, hp1⟩
          have HAP := Lib.hid (show Apart (.slice A1 k1 c1) D from fun g hg hD => by have := (ho1.lt g hg).1; have := (H3.out.footD g hD).2; omega)
          have HO1 := Lib.hid ho1
          have HL1 := Lib.hid hr1
          have HR2 := Lib.hid (hp1.read2 (m := n) HFR.out k1 HK1.out (by have := HS.out; omega))
          clear ho1 hr1 hp1 HR1
          go_wp2_with fail
          refine HR2.out.mono ?_
          rintro e w6 ⟨A2, c2, L2, rfl, ho2, hr2, hp2, sc2⟩
          obtain rfl := HL1.out.eq hr2
          have HS1 := Lib.hid (same_true L1 (c := c1) (d := c2) HL1.out.len HL1.out.len (sc2.trn.own HO1.out HAP.out).rd ho2.rd (by rw [HL1.out.len]; unfold maxLen; have := HK1.out; have := HS.out; omega))
          have HP2 := Lib.hid hp2
          clear ho2 hr2 hp2 sc2 HR2 HO1 HAP
          go_wp2_with fail
          refine HS1.out.mono ?_
          rintro e w7 ⟨rfl, k9, rfl⟩
          have HNX : Hid (QHead W (w6.drewN k9) p r (k + 1)) := Lib.hid ⟨_, _, _, HP2.out.later (below_drewN _ k9), (HFEW.out.read k1).mono (by omega)⟩
          clear HP2 HS1
          go_wp2
          go_meet
          exact ⟨_, rfl, HNX⟩
        · have hM9 := trivial
          go_wp2_with fail
          clear hM hM9
          refine (within_any nf 70 _ (by omega) (by omega)).mono ?_
          rintro e w4 ⟨rfl, rfl⟩
          go_upto_if 68 with (fail)
          go_cut [10] (fun fv wx => ∃ f : Int, fv = .int .i64 f ∧ (-9223372036854775808 ≤ f ∧ f ≤ 9223372036854775807) ∧ wx = w3)
          case first =>
            by_cases h19 : nf.tmod 19 = 18
            · go_wp2_with fail
              refine (within_any nf 2199023255552 _ (by omega) (by omega)).mono ?_
              rintro e w4 ⟨rfl, rfl⟩
              go_wp2
              go_meet
              exact ⟨_, rfl, by first | omega | exact wrap64_in _, rfl⟩
            · go_wp2
              go_meet
              exact ⟨_, rfl, by first | omega | exact wrap64_in _, rfl⟩
          case rest =>
          obtain ⟨f, rfl, hf, rfl⟩ := hcut
          have HF := Lib.hid hf
          clear hf e1
          have HCA := Lib.hid (Go.Proofs.Ytlljfinagjdihaa.cut_any xA xl xc 25 x.xs wc HXL.out (by have := HXX.out.le; rw [HXL.out, HXC.out] at this; exact this) HRD.out (by have := HXX.out.len; rw [HXL.out] at this; exact this) (by omega) (by omega))
          obtain ⟨ys, hys⟩ : ∃ ys, x.xs.take 25 = ys := ⟨_, rfl⟩
          have hyl : ys.length ≤ 25 := by rw [← hys]; exact List.length_take_le _ _
          obtain ⟨L, hL⟩ : ∃ n, ys.length = n := ⟨_, rfl⟩
          rw [hL] at hyl
          rw [show (25 : Int).toNat = 25 from rfl, hys, hL] at HCA
          have HL := Lib.hid hL
          have HYL := Lib.hid hyl
          clear hys hL hyl
          go_wp2_with fail
          refine HCA.out.mono ?_
          rintro e w4 ⟨A, c, rfl, ho, hb⟩
          have H4 := Lib.hid (H3.out.later hb)
          have HO := Lib.hid ho
          have HAF := Lib.hid (show Apart (.slice A L c) F from fun g hg hD => by have := (ho.lt g hg).1; have := (H3.out.footF g hD).2; omega)
          have HAD := Lib.hid (show Apart (.slice A L c) D from fun g hg hD => by have := (ho.lt g hg).1; have := (H3.out.footD g hD).2; omega)
          have HLE := Lib.hid (lend_new A L c ys w4 HL.out ho.rd (by have := HYL.out; omega))
          have y2 := cell_later hb e2
          have y4 := cell_later hb e4
          clear ho hb HCA HRD e2 e3 e4
          go_wp2_with fail
          refine HLE.out.mono ?_
          rintro e w5 ⟨rfl, hrl, hb5⟩
          have H5 := Lib.hid (H4.out.later hb5)
          have HO5 := Lib.hid (HO.out.later hb5)
          have HRL := Lib.hid hrl
          have HQ := Lib.hid (show (∀ g, F g → g < w4.heap.size) ∧ ∀ g, D g → g < w4.heap.size from ⟨fun g hg => (H4.out.footF g hg).2, fun g hg => (H4.out.footD g hg).2⟩)
          have x2 := cell_later hb5 y2
          have x4 := cell_later hb5 y4
          obtain ⟨q, hq⟩ : ∃ q, w4.heap.size = q := ⟨_, rfl⟩
          rw [hq] at HQ HRL
          rw [hq]
          clear hrl hb5 HLE HO H4 y2 y4 hq
          go_upto_region 21 with (fail)
          go_cut [13] (fun bv wx => ∃ fb : Bool, bv = .bool fb ∧ wx = w5)
          case first =>
            cases xb
            · go_wp2
              go_meet
              exact ⟨_, rfl, rfl⟩
            · by_cases h3 : nn.tmod 3 = 0
              · go_wp2
                go_meet
                exact ⟨_, rfl, rfl⟩
              · go_wp2
                go_meet
                exact ⟨_, rfl, rfl⟩
          case rest =>
          obtain ⟨fb, rfl, rfl⟩ := hcut
          clear x2 x4
          have hrt : Rd .u8 wc (some ⟨q, 0, none⟩) ys := by
            have := HRL.out.take L
            rw [List.take_left' HL.out] at this
            exact this
          have HP1 := Lib.hid (H5.out.put1 (f := f) (A := some ⟨q, 0, none⟩) (m := L) (c := L + 3) (ys := ys) HL.out hrt (fun a ha _ hF => by injection ha with ha; have := HQ.out.1 _ hF; rw [← ha] at this; exact Nat.lt_irrefl _ this) fb HF.out (by have := HYL.out; omega) (by have := HS.out; omega))
          clear hrt
          go_wp2_with fail
          refine HP1.out.mono ?_
          rintro e w6 ⟨rfl, F6, h6, sc6⟩
          have hoa := keep_own sc6 HO5.out HAF.out
          have HRL6 := Lib.hid (rd_trn HRL.out sc6.trn (fun a ha hF => by injection ha with ha; have := HQ.out.1 _ hF; rw [← ha] at this; exact Nat.lt_irrefl _ this))
          have HO6 := Lib.hid hoa.1
          have HP2 := Lib.hid (h6.put2 (f := f) (A := A) (m := L) (c := c) (ys := ys) HL.out hoa.1.rd (fun a ha hD => HAD.out a.block (by rw [ha]; rfl) hD) fb HF.out (by have := HYL.out; omega) (by have := HS.out; omega))
          clear h6 sc6 hoa HP1 HO5 HRL H5
          go_wp2_with fail
          refine HP2.out.mono ?_
          rintro e w7 ⟨rfl, D7, h7, sc7⟩
          have HIT := Lib.hid (intact_any (some ⟨q, 0, none⟩) A L c ys w7 HL.out (rd_trn HRL6.out sc7.trn (fun a ha hD => by injection ha with ha; have := HQ.out.2 _ hD; rw [← ha] at this; exact Nat.lt_irrefl _ this)) (sc7.trn.own HO6.out HAD.out).rd (by have := HYL.out; omega))
          have H7 := Lib.hid h7
          clear h7 sc7 HP2 HO6 HRL6
          go_wp2_with fail
          refine HIT.out.mono ?_
          rintro e w8 ⟨rfl, k9, rfl⟩
          have HNX : Hid (QHead W (w7.drewN k9) p r (k + 1)) := Lib.hid ⟨_, _, _, H7.out.later (below_drewN _ k9), (HFEW.out.put H3.out.ok (by have := HS.out; omega) f ys fb).mono (by rw [HL.out]; have := HYL.out; omega)⟩
          clear HIT H7
          go_wp2
          go_meet
          exact ⟨_, rfl, HNX⟩
      case rest =>
      obtain ⟨w8, rfl, hgr⟩ := hcut
      obtain ⟨F8, D8, s8, hpm8, hfew8⟩ := hgr.out
      obtain ⟨f8, hf8, ht8⟩ := hpm8.front
      have hb8 := hfew8.front hpm8.ok hf8
      have HSM := Lib.hid (sameI_any hpm8 hf8 (by have := HKK.out; omega))
      have HP8 := Lib.hid hpm8
      have HF8 := Lib.hid hfew8
      clear hgr hpm8 hfew8 hf8 ht8 hb8 e1 e2 e3 e4 i1 i2
      go_wp2_with fail
      refine HSM.out.mono ?_
      rintro e w9 ⟨rfl, hb9⟩
      have HNX : Hid (QHead W w9 p r (k + 1)) := Lib.hid ⟨_, _, _, HP8.out.later hb9, HF8.out⟩
      clear hb9 HSM HP8
      go_wp2
      go_roundw
      case rel => exact ⟨k + 1, by have := HKK.out; omega, by first | rfl | (rw [HKW.out]) | go_num, HNX⟩
      case measure => (try rw [HKW.out]); have := HKK.out; simp [intOf]; omega
    · obtain ⟨F, D, s, hpm, hfew⟩ := hhd.out
      have HB := Lib.hid hpm.bel
      clear hhd hpm hfew
      by_cases hk : k < len1
      · have i1 : (k : Int) < (len1 : Int) := by omega
        have i2 : ¬ ((k : Int) < 30) := by omega
        clear hlt hk hk30
        go_wp2_with fail
        refine (wakesI_any _).mono ?_
        rintro e w9 ⟨rfl, hb⟩
        have HFIN := Lib.hid (HB.out.trans (hb.mono HB.out.size))
        clear hb
        go_wp2
        go_ret
        exact ⟨rfl, HFIN.out⟩
      · have i1 : ¬ ((k : Int) < (len1 : Int)) := by omega
        clear hlt hk hk30
        go_wp2_with fail
        refine (wakesI_any _).mono ?_
        rintro e w9 ⟨rfl, hb⟩
        have HFIN := Lib.hid (HB.out.trans (hb.mono HB.out.size))
        clear hb
        go_wp2
        go_ret
        exact ⟨rfl, HFIN.out⟩
end Go.Proofs.Ytlljfinagjdihaa
