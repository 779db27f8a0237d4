/-
  The walk of StorePlays.
-/
import Derived.Test.YtfafonfphholmaaStMid
import Derived.Test.YtfafonfphholmaaRfDrop
import Derived.Test.YtfafonfphholmaaArgD
import Derived.Test.YtfafonfphholmaaStWakes
import Derived.Test.YtfafonfphholmaaBase
import Derived.Test.YtfafonfphholmaaLend
import Derived.Deep.LoopGhost
import Derived.Deep.CutBlock
import Derived.Deep.DeepCutAuto
namespace Go.Proofs.Ytfafonfphholmaa
open Go.RowKit

/-- At the loop's head. -/
def Head (W wr : World) (p r k : Nat) : Prop := ∃ (s : St) (F G : Nat → Prop), Both wr W.heap.size p r s F G ∧ Small s k ∧ Below W.heap.size W wr

set_option maxRecDepth 10000 in
set_option maxHeartbeats 4000000 in
theorem storePlays_walk (a0 : Option Addr) (len0 cap0 : Nat) (X0 : List ActM) (W : World) (h0 : ArgD W a0 len0 cap0 X0) :
    Calls Try.prog 3 #[.slice a0 len0 cap0] W fun e W' => e = .returned (.bool true) ∧ Below W.heap.size W W' := by
  have HA := Lib.hid h0
  have hle := h0.le
  have hrc := h0.reach
  clear h0
  go_enter Try.func3, Try.ntmps3
  go_wp2_with fail
  refine (newst_any W W.heap.size (Nat.le_refl _)).mono ?_
  intro e w1 hn
  obtain ⟨p, F, rfl, hs, hb, hF⟩ := newst_is hn
  have HB0 := Lib.hid (both_new hs)
  have HW0 := Lib.hid (hb.alloc hb.size (.cells #[.slice none 0 0, .bool false, .bool false, .int .i64 0] 28))
  clear hn hs hb hF
  go_wp2_with fail
  obtain ⟨w2, hw2⟩ : ∃ w2, w1.alloc (.cells #[.slice none 0 0, .bool false, .bool false, .int .i64 0] 28) = w2 := ⟨_, rfl⟩
  rw [hw2] at HB0 HW0 ⊢
  obtain ⟨r, hr⟩ : ∃ r, w1.heap.size = r := ⟨_, rfl⟩
  rw [hr] at HB0 ⊢
  have H0 : Hid (Head W w2 p r 0) := Lib.hid ⟨_, _, _, HB0.out, ⟨Nat.le_refl _, by simp⟩, HW0.out⟩
  clear hw2 hr HB0 HW0
  go_loopg [5] 30 (fun g vi wr => ∃ k : Nat, k + g = 30 ∧ vi = .int .i64 k ∧ Hid (Head W wr p r k))
  case atStart => exact ⟨0, by omega, rfl, H0⟩
  case round =>
    clear H0
    obtain ⟨k, hk, rfl, hhd⟩ := hrel
    by_cases hlt : k < len0 ∧ k < 30
    · obtain ⟨t1, t2⟩ := hlt
      obtain ⟨s, F, G, hbo, hsm, hbl⟩ := hhd.out
      clear hhd
      obtain ⟨b, off, rfl, hcell⟩ := HA.out.cell (by omega)
      obtain ⟨x, hx⟩ : ∃ x, X0[k]? = some x := ⟨X0[k]'(by rw [HA.out.len]; exact t1), List.getElem?_eq_getElem _⟩
      obtain ⟨c0, c1, c2, c3⟩ := hcell k x hx
      have hat := HA.out.each x (List.mem_of_getElem? hx)
      have d0 := cell_later hbl c0
      have d1 := cell_later hbl c1
      have d2 := cell_later hbl c2
      have d3 := cell_later hbl c3
      have i1 : (k : Int) < (len0 : Int) := by omega
      have i2 : (k : Int) < 30 := by omega
      have i3 : (0 : Int) ≤ (k : Int) := by omega
      have HX := Lib.hid hat
      obtain ⟨xl, hxl⟩ : ∃ xl, x.xs.length = xl := ⟨_, rfl⟩
      rw [hxl] at d3
      have HXL := Lib.hid hxl
      have HBO := Lib.hid hbo
      have HSM := Lib.hid hsm
      have HBL := Lib.hid hbl
      obtain ⟨nd, hnd⟩ : ∃ nd, x.d = nd := ⟨_, rfl⟩
      obtain ⟨nb, hnb⟩ : ∃ nb, x.b = nb := ⟨_, rfl⟩
      obtain ⟨nn, hnn⟩ : ∃ nn, x.n = nn := ⟨_, rfl⟩
      obtain ⟨xA, hxA⟩ : ∃ xA, x.A = xA := ⟨_, rfl⟩
      obtain ⟨xc, hxc⟩ : ∃ xc, x.c = xc := ⟨_, rfl⟩
      rw [hnd] at d0
      rw [hnb] at d1
      rw [hnn] at d2
      rw [hxA, hxc] at d3
      have bd := hat.bd
      have bb := hat.bb
      have bn := hat.bn
      rw [hnd] at bd
      rw [hnb] at bb
      rw [hnn] at bn
      have HXA := Lib.hid hxA
      have HXC := Lib.hid hxc
      clear hcell hx c0 c1 c2 c3 hat hxl hbo hsm hbl hnd hnb hnn hxA hxc
      go_wp2_with fail
      refine (within_any nb 6 _ (by omega) (by omega)).mono ?_
      rintro e w3 ⟨rfl, rfl⟩
      have y0 : 0 ≤ nb % 6 := Int.emod_nonneg nb (by decide)
      have y1 : nb % 6 < 6 := Int.emod_lt_of_pos nb (by decide)
      have e0 : (wr.alloc (.cells #[.int .i64 nd, .int .i64 nb, .int .i64 nn, .slice xA xl xc] 31)).cell? ⟨wr.heap.size, 0, none⟩ = some (.int .i64 nd) := by go_simp
      have e1 : (wr.alloc (.cells #[.int .i64 nd, .int .i64 nb, .int .i64 nn, .slice xA xl xc] 31)).cell? ⟨wr.heap.size, 0 + 1, none⟩ = some (.int .i64 nb) := by go_simp
      have e2 : (wr.alloc (.cells #[.int .i64 nd, .int .i64 nb, .int .i64 nn, .slice xA xl xc] 31)).cell? ⟨wr.heap.size, 0 + 2, none⟩ = some (.int .i64 nn) := by go_simp
      have e3 : (wr.alloc (.cells #[.int .i64 nd, .int .i64 nb, .int .i64 nn, .slice xA xl xc] 31)).cell? ⟨wr.heap.size, 0 + 3, none⟩ = some (.slice xA xl xc) := by go_simp
      obtain ⟨w3, hw3⟩ : ∃ w3, wr.alloc (.cells #[.int .i64 nd, .int .i64 nb, .int .i64 nn, .slice xA xl xc] 31) = w3 := ⟨_, rfl⟩
      obtain ⟨z, hz⟩ : ∃ z, wr.heap.size = z := ⟨_, rfl⟩
      rw [hw3, hz] at e0 e1 e2 e3
      have HZ := Lib.hid hz
      have HB3 : Hid (Below wr.heap.size wr w3) := Lib.hid (by rw [← hw3]; exact (Below.refl _ _).alloc (Nat.le_refl _) _)
      have HRD : Hid (Rd .u8 w3 xA x.xs) := Lib.hid (by
        have := HX.out.rd
        rw [HXA.out] at this
        exact this.later (HBL.out.trans (HB3.out.mono HBL.out.size)))
      rw [hw3, hz]
      clear hw3 hz d0 d1 d2 d3
      go_upto_if 40 with (fail)
      go_cut [7] (fun s7 wx => ∃ n : Int, s7 = .int .i64 n ∧ n ≤ 9223372036854775807 ∧ wx = w3)
      case first =>
        go_wp2_with fail
        all_goals go_meet
        all_goals exact ⟨_, rfl, by omega, rfl⟩
      case rest =>
      obtain ⟨n, rfl, hn, rfl⟩ := hcut
      clear y0 y1 bb e1
      have HCA := Lib.hid (Go.Proofs.Ytfafonfphholmaa.cut_any xA xl xc 20 x.xs wc HXL.out (by have := HX.out.le; rw [HXL.out, HXC.out] at this; exact this) HRD.out (by have := HX.out.len; rw [HXL.out] at this; exact this) (by omega) (by omega))
      obtain ⟨ys, hys⟩ : ∃ ys, x.xs.take 20 = ys := ⟨_, rfl⟩
      have hyl : ys.length ≤ 20 := by rw [← hys]; exact List.length_take_le _ _
      obtain ⟨L, hL⟩ : ∃ n, ys.length = n := ⟨_, rfl⟩
      rw [hL] at hyl
      have HYS := Lib.hid hys
      have HL := Lib.hid hL
      clear hys hL
      go_wp2_with fail
      refine HCA.out.mono ?_
      rintro e w4 ⟨A, c, rfl, ho, hb⟩
      rw [show (20 : Int).toNat = 20 from rfl, HYS.out] at ho ⊢
      rw [HL.out] at ho ⊢
      have HO := Lib.hid ho
      have HB4 := Lib.hid hb
      have g0 := cell_later hb e0
      have g2 := cell_later hb e2
      clear ho hb e0 e2 e3 HCA HRD HX HXA HXC HXL HYS
      go_wp2_with fail
      refine (lend_new A L c ys w4 HL.out HO.out.rd (by omega)).mono ?_
      rintro e w5 ⟨rfl, hr5, hb5⟩
      have hb35 := HB4.out.trans (hb5.mono HB4.out.size)
      have hb05 := HB3.out.trans (hb35.mono HB3.out.size)
      have h5 : Mid W w5 p r z nn s s F G A (some ⟨w4.heap.size, 0, none⟩) ys := Mid.of HBO.out HBL.out hb05 (cell_later hb5 g2) (by rw [HZ.out]; exact Nat.le_refl _) (HO.out.rd.later hb5) hr5
        (fun a ha => Nat.le_trans HB3.out.size (HO.out.lt a.block (by rw [ha]; rfl)).1) (fun a ha => by cases ha; exact Nat.le_trans HB3.out.size HB4.out.size) (fun a ha => Nat.lt_of_lt_of_le (HO.out.lt a.block (by rw [ha]; rfl)).2 hb5.size) (fun a ha => by cases ha; exact World.block_lt_of_cell? w5 ⟨w4.heap.size, 0, none⟩ (by
          obtain ⟨b9, o9, h9, hc9⟩ := hr5.some_ (by simp)
          cases h9
          have := hc9 0 (by simp)
          exact this))
      have g0' := cell_later hb5 g0
      have H5 := Lib.hid h5
      obtain ⟨A', hA'⟩ : ∃ A', (some ⟨w4.heap.size, 0, none⟩ : Option Addr) = A' := ⟨_, rfl⟩
      rw [hA'] at H5
      rw [hA']
      clear hr5 hb5 hb35 hb05 h5 g0 g2 hA' HO HB4 HB3 HZ HBO HBL
      go_wp2_with fail
      refine (within_any nd 15 _ (by omega) (by omega)).mono ?_
      rintro e w6 ⟨rfl, rfl⟩
      have y0 : 0 ≤ nd % 15 := Int.emod_nonneg nd (by decide)
      have y1 : nd % 15 < 15 := Int.emod_lt_of_pos nd (by decide)
      obtain ⟨M, hM⟩ : ∃ M, nd % 15 = M := ⟨_, rfl⟩
      rw [hM] at y0 y1 ⊢
      clear hM g0' bd
      go_upto_block 2 with (fail)
      have HSM1 := Lib.hid (HSM.out.more)
      have HS1 : Hid (s.bs.length ≤ 30 ∧ ∀ b ∈ s.bs, b.xs.length ≤ 600) := Lib.hid ⟨by have := HSM.out.1; omega, fun b hb => by have := HSM.out.2 b hb; omega⟩
      have HLT : Hid (ys.length ≤ 20) := Lib.hid (by rw [HL.out]; exact hyl)
      have HRL : Hid (∀ {w : World}, Rd .u8 w A' (ys ++ [85, 85, 85]) → Rd .u8 w A' ys) := Lib.hid (fun h => by
        have := h.take L
        rwa [List.take_left' HL.out] at this)
      go_cut [10, 11] (fun s10 s11 wx => ∃ (e : Int) (s' : St) (F' G' : Nat → Prop), s10 = .int .i64 e ∧ s11 = .int .i64 e ∧ Hid (Mid W wx p r z nn s' s' F' G' A A' ys) ∧ Hid (Small s' (k + 1)))
      case first =>
        have g2 := H5.out.box
        have q0 : 0 ≤ nn % 30 := Int.emod_nonneg nn (by decide)
        have q1 : nn % 30 < 30 := Int.emod_lt_of_pos nn (by decide)
        have hM : (M = 0 ∨ M = 1 ∨ M = 2 ∨ M = 3 ∨ M = 4) ∨ (M = 5 ∨ M = 6) ∨ (M = 7 ∨ M = 8) ∨ M = 9 ∨ (M = 10 ∨ M = 11) ∨ (M = 12 ∨ M = 13) ∨ M = 14 := by omega
        clear y0 y1
        rcases hM with hM | hM | hM | hM | hM | hM | hM
        · rcases hM with rfl | rfl | rfl | rfl | rfl
          all_goals
            go_wp2_with fail
            refine (append_any H5.out.dev n hn A' L (L + 3) ys HL.out (HRL.out H5.out.rd') (fun a ha => (H5.out.o' a ha).2.1) (by have := HS1.out.1; omega) (by omega) (fun k hk => by have := HS1.out.2 k hk; omega)).mono ?_
            rintro e w6 ⟨F6, rfl, hs6, hc6⟩
            have H6 := Lib.hid (H5.out.turn hs6 hc6)
            clear hs6 hc6
            go_wp2_with fail
            refine (rfapp_any H6.out.doc n A L c ys HL.out H6.out.rd (fun a ha => (H6.out.o a ha).2.2) (by have := HS1.out.1; omega) (by omega) (fun k hk => by have := HS1.out.2 k hk; omega)).mono ?_
            rintro e w7 ⟨G7, rfl, hs7, hc7⟩
            have H7 := Lib.hid (H6.out.turn' hs7 hc7)
            clear hs7 hc7 H6
            go_wp2_with fail
            go_meet
            exact ⟨_, _, _, _, rfl, rfl, H7, Lib.hid (HSM.out.append n ys HLT.out)⟩
        · rcases hM with rfl | rfl
          all_goals
            go_wp2_with fail
            refine (sync_any H5.out.dev n hn).mono ?_
            rintro e w6 ⟨F6, rfl, hs6, hc6⟩
            have H6 := Lib.hid (H5.out.turn hs6 hc6)
            clear hs6 hc6
            go_wp2_with fail
            refine (rfsync_any H6.out.doc n).mono ?_
            rintro e w7 ⟨G7, rfl, hs7, hc7⟩
            have H7 := Lib.hid (H6.out.turn' hs7 hc7)
            clear hs7 hc7 H6
            go_wp2_with fail
            go_meet
            exact ⟨_, _, _, _, rfl, rfl, H7, Lib.hid (HSM.out.sync n).more⟩
        · rcases hM with rfl | rfl
          all_goals
            go_wp2_with fail
            refine (within_any nn 30 _ (by omega) (by omega)).mono ?_
            rintro e w6 ⟨rfl, rfl⟩
            go_wp2_with fail
            all_goals
              refine (stcut_any H5.out.dev n hn _).mono ?_
              rintro e w6 ⟨F6, rfl, hs6, hc6⟩
              have H6 := Lib.hid (H5.out.turn hs6 hc6)
              clear hs6 hc6
              go_wp2_with fail
              refine (rfcut_any H6.out.doc n _ (by omega)).mono ?_
              rintro e w7 ⟨G7, rfl, hs7, hc7⟩
              have H7 := Lib.hid (H6.out.turn' hs7 hc7)
              clear hs7 hc7 H6
              go_wp2_with fail
              go_meet
              exact ⟨_, _, _, _, rfl, rfl, H7, Lib.hid (HSM.out.cut n _).more⟩
        · subst hM
          go_wp2_with fail
          refine (drop_any H5.out.dev n hn).mono ?_
          rintro e w6 ⟨F6, rfl, hs6, hc6⟩
          have H6 := Lib.hid (H5.out.turn hs6 hc6)
          clear hs6 hc6
          go_wp2_with fail
          refine (rfdrop_any H6.out.doc n).mono ?_
          rintro e w7 ⟨G7, rfl, hs7, hc7⟩
          have H7 := Lib.hid (H6.out.turn' hs7 hc7)
          clear hs7 hc7 H6
          go_wp2_with fail
          go_meet
          exact ⟨_, _, _, _, rfl, rfl, H7, Lib.hid (HSM.out.drop n).more⟩
        · have v1 : nn.tmod 6 < 6 := Int.tmod_lt_of_pos nn (by decide)
          rcases hM with rfl | rfl
          all_goals
            go_wp2_with fail
            refine (fuse_is H5.out.dev (nn.tmod 6) (by omega)).mono ?_
            rintro e w6 ⟨rfl, hs6, hc6⟩
            have H6 := Lib.hid (H5.out.turn hs6 hc6)
            have g6 := H6.out.box
            clear hs6 hc6
            go_wp2_with fail
            refine (rffuse_any H6.out.doc (nn.tmod 6) (by omega)).mono ?_
            rintro e w7 ⟨rfl, hs7, hc7⟩
            have H7 := Lib.hid (H6.out.turn' hs7 hc7)
            clear hs7 hc7 H6
            go_wp2_with fail
            go_meet
            exact ⟨_, _, _, _, rfl, rfl, H7, Lib.hid (HSM.out.fuse _ _ _).more⟩
        · rcases hM with rfl | rfl
          all_goals
            go_wp2_with fail
            refine (crash_any H5.out.dev (nn.tmod 12)).mono ?_
            rintro e w6 ⟨F6, rfl, hs6, hc6⟩
            have H6 := Lib.hid (H5.out.turn hs6 hc6)
            have g6 := H6.out.box
            clear hs6 hc6
            go_wp2_with fail
            refine (rfcrash_any H6.out.doc (nn.tmod 12)).mono ?_
            rintro e w7 ⟨G7, rfl, hs7, hc7⟩
            have H7 := Lib.hid (H6.out.turn' hs7 hc7)
            clear hs7 hc7 H6
            go_wp2_with fail
            go_meet
            exact ⟨_, _, _, _, rfl, rfl, H7, Lib.hid (HSM.out.crash _).more⟩
        · subst hM
          go_wp2_with fail
          refine (clone_is H5.out.dev (by have := HS1.out.1; omega)).mono ?_
          rintro e w6 ⟨q, Fq, rfl, hq, hb6⟩
          have HQ := Lib.hid hq
          have HB6 := Lib.hid hb6
          clear hq hb6
          go_wp2_with fail
          obtain ⟨w7, hw7⟩ : ∃ w7, w6.alloc (.cells (bts [7]) 5) = w7 := ⟨_, rfl⟩
          have hb7 : Below w6.heap.size w6 w7 := by rw [← hw7]; exact (Below.refl _ _).alloc (Nat.le_refl _) _
          have hr7 : Rd .u8 w7 (some ⟨w6.heap.size, 0, none⟩) [7] := by rw [← hw7]; exact lit_rd w6 [7] (by simp [maxLen])
          have hq7 := HQ.out.later hb7
          have hqa := append_any hq7 1 (by omega) (some ⟨w6.heap.size, 0, none⟩) 1 1 [7] rfl hr7 (fun a ha hF => by cases ha; have := (HQ.out.foot_lt _ hF).2; simp at this) (by have := HS1.out.1; omega) (by omega) (fun k hk => by have := HS1.out.2 k hk; omega)
          have HQA := Lib.hid hqa
          have HQ7 := Lib.hid hq7
          have HB7 := Lib.hid (HB6.out.trans (hb7.mono HB6.out.size))
          change Calls _ _ _ (w6.alloc (.cells (bts [7]) 5)) _
          rw [hw7]
          clear hw7 hb7 hr7 hq7 hqa HQ HB6
          refine HQA.out.mono ?_
          rintro e w8 ⟨F8, rfl, hs8, hc8⟩
          have HS8 := Lib.hid hs8
          have HC8 := Lib.hid hc8
          clear hs8 hc8 HQA
          go_wp2_with fail
          refine (crash_any HS8.out 0).mono ?_
          rintro e w9 ⟨F9, rfl, hs9, hc9⟩
          have H9 := Lib.hid (H5.out.later (HB7.out.trans ((HC8.out.trans hc9).below HB7.out.size (fun k hk => (HQ7.out.foot_lt k hk).1))))
          clear hs9 hc9
          go_wp2_with fail
          go_meet
          exact ⟨_, _, _, _, rfl, rfl, H9, HSM1⟩
      case rest =>
      clear H5 HSM HSM1 HS1 HLT HRL
      obtain ⟨e, s', F', G', rfl, rfl, hm, hsm⟩ := hcut
      go_wp2_with fail
      refine (sameS_any hm.out.dev hm.out.doc rfl rfl (by have := hsm.out.1; omega)).mono ?_
      rintro e w7 ⟨rfl, b7⟩
      have H7 := Lib.hid (hm.out.later b7)
      clear b7 hm
      go_wp2_with fail
      refine (intact_any A' A L c ys _ HL.out H7.out.rd' H7.out.rd (by omega)).mono ?_
      rintro e w8 ⟨rfl, kd, rfl⟩
      have H8 := Lib.hid (H7.out.later (⟨rfl, rfl, rfl, Nat.le_refl _, fun _ _ => rfl⟩ : Below w7.heap.size w7 (w7.drewN kd)))
      clear H7
      go_wp2_with fail
      go_roundg (gk - 1)
      case measure => omega
      case rel =>
        exact ⟨k + 1, by omega, by go_num, Lib.hid ⟨s', F', G', H8.out.both, hsm.out, H8.out.bel⟩⟩
    · rcases (show ¬ (k : Int) < (len0 : Int) ∨ ((k : Int) < (len0 : Int) ∧ ¬ (k : Int) < 30) by omega) with t0 | ⟨t0, t1⟩
      all_goals
        obtain ⟨s, F, G, hbo, hsm, hbl⟩ := hhd.out
        have HBL := Lib.hid hbl
        clear hlt hhd hbo hsm hbl
        go_wp2_with fail
        refine (wakesS_any _).mono ?_
        rintro e w9 ⟨rfl, b9⟩
        have HB9 := Lib.hid (HBL.out.trans (b9.mono HBL.out.size))
        clear b9
        go_wp2_with fail
        go_ret
        exact ⟨rfl, HB9.out⟩
end Go.Proofs.Ytfafonfphholmaa
