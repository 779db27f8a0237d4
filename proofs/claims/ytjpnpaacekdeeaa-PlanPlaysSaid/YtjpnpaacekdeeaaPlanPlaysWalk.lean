/-
  The walk of PlanPlays.
-/
import Derived.Test.YtjpnpaacekdeeaaPlanMid
import Derived.Test.YtjpnpaacekdeeaaArgP
import Derived.Test.YtjpnpaacekdeeaaWithin
import Derived.Deep.LoopGhost
import Derived.Deep.CutBlock
import Derived.Deep.DeepCutAuto
namespace Go.Proofs.Ytjpnpaacekdeeaa
open Go.RowKit

/-- At the loop's head. -/
def PHead (W wr : World) (p q po b xp : Nat) (tv : Value) (n : Nat) : Prop := ∃ (v vo dv xv : Value) (P : Pl) (o : Ou) (ts : List (Int × Int)), PM W wr p q v P po vo o b dv P xp xv o tv ts ∧ PMok P o ts ∧ ts.length = n

theorem PM.make {W w2 w3 w5 w6 : World} {p q po xp : Nat} {o : Ou} (hb : Below W.heap.size W w2) (h1 : PlanAt w3 w2.heap.size p q (.slice none 0 0) Pl.new) (b3 : Below w2.heap.size w2 w3)
    (h5 : OutAt w5 (w3.heap.size + 1) po (.slice none 0 0) o) (b5 : Below (w3.heap.size + 1) (w3.alloc (.cells #[.int .i64 0, .slice none 0 0] tDPlan)) w5) (h6 : DoAt w6 w5.heap.size xp (.slice none 0 0) o) (b6 : Below w5.heap.size w5 w6) :
    PM W w6 p q (.slice none 0 0) Pl.new po (.slice none 0 0) o w3.heap.size (.slice none 0 0) Pl.new xp (.slice none 0 0) o (.slice none 0 0) [] := by
  have hs2 := hb.size
  have hs3 := b3.size
  have hz4 : (w3.alloc (.cells #[.int .i64 0, .slice none 0 0] tDPlan)).heap.size = w3.heap.size + 1 := World.size_alloc _ _
  have hs5 : w3.heap.size + 1 ≤ w5.heap.size := by have := b5.size; omega
  have hs6 := b6.size
  have b4 : Below w3.heap.size w3 (w3.alloc (.cells #[.int .i64 0, .slice none 0 0] tDPlan)) := (Below.refl _ _).alloc (Nat.le_refl _) _
  have hl1 := fun k hk => (h1.foot_lt k hk).2
  have pl : PlanAt w6 w2.heap.size p q (.slice none 0 0) Pl.new := (((h1.later b4).later (by rw [hz4]; exact b5)).later b6)
  have dp4 : DpAt (w3.alloc (.cells #[.int .i64 0, .slice none 0 0] tDPlan)) W.heap.size w3.heap.size (.slice none 0 0) Pl.new.sent Pl.new.ls :=
    ⟨World.rowIs_alloc w3 _ _ _ (fun i hi => by
      have : i < 2 := hi
      match i, this with
      | 0, _ | 1, _ => rfl), OwnP.nil _ _ _, by omega, Norm.nil⟩
  have dp : DpAt w6 W.heap.size w3.heap.size (.slice none 0 0) Pl.new.sent Pl.new.ls := (dp4.later (by rw [hz4]; exact b5)).later b6
  have no : ∀ k, ¬ (Value.slice none 0 0).ownBlock = some k := fun k => by simp [Value.ownBlock]
  have hpo := h5.ge
  have hpl := h5.lt
  have hxp := h6.ge
  have f2 : ∀ k, Oft po (.slice none 0 0) k → k = po := fun k hk => hk.elim id (fun h => absurd h (no k))
  have f3 : ∀ k, Dft w3.heap.size (.slice none 0 0) k → k = w3.heap.size := fun k hk => hk.elim id (fun h => absurd h (no k))
  have f4 : ∀ k, Oft xp (.slice none 0 0) k → k = xp := fun k hk => hk.elim id (fun h => absurd h (no k))
  refine ⟨⟨pl.row, ⟨pl.set.row, pl.set.own.less hs2, Nat.le_trans hs2 pl.set.ge, pl.set.norm⟩, Nat.le_trans hs2 pl.ge, pl.ok⟩, ⟨(h5.later b6).row, (h5.later b6).own.less (by omega), by omega, h5.ok⟩, dp, h6.less (by omega), OwnP.nil _ _ _, ?_, ?_, ?_, ?_, ?_, ?_, ?_, ?_, ?_, ?_, ?_⟩
  · intro k h1' h2'
    have := hl1 k h1'
    have := f2 k h2'
    omega
  · intro k h1' h2'
    have := hl1 k h1'
    have := f3 k h2'
    omega
  · intro k h1' h2'
    have := hl1 k h1'
    have := f4 k h2'
    omega
  · exact fun k _ h2' => no k h2'
  · intro k h1' h2'
    have := f2 k h1'
    have := f3 k h2'
    omega
  · intro k h1' h2'
    have := f2 k h1'
    have := f4 k h2'
    omega
  · exact fun k _ h2' => no k h2'
  · intro k h1' h2'
    have := f3 k h1'
    have := f4 k h2'
    omega
  · exact fun k _ h2' => no k h2'
  · exact fun k _ h2' => no k h2'
  · exact hb.trans ((b3.mono hs2).trans ((b4.mono (by omega)).trans ((b5.mono (by omega)).trans (b6.mono (by omega)))))

set_option maxRecDepth 100000 in
set_option maxHeartbeats 4000000 in
theorem planPlays_walk (a0 a1 : Int) (a2 : Option Addr) (len2 cap2 : Nat) (X2 : List ActM) (W : World) (_ : (Lit.int .i64 a0).wf = true) (_ : (Lit.int .i64 a1).wf = true) (h2 : ArgD W a2 len2 cap2 X2) :
    Calls Try.prog 4 #[.int .i64 a0, .int .i64 a1, .slice a2 len2 cap2] W fun e W' => e = .returned (.bool true) ∧ Below W.heap.size W W' := by
  have HA := Lib.hid h2
  have hle := h2.le
  have hrc := h2.reach
  have HW1 := Lib.hid (fun w => within_any a0 60 w (by omega) (by omega))
  obtain ⟨c0, hc1⟩ : ∃ c, a0 % 60 = c := ⟨_, rfl⟩
  have c00 : 0 ≤ c0 ∧ c0 < 60 := by rw [← hc1]; exact ⟨Int.emod_nonneg _ (by omega), Int.emod_lt_of_pos _ (by omega)⟩
  rw [hc1] at HW1
  obtain ⟨BF, hBF⟩ : ∃ C, 10 + c0 = C := ⟨_, rfl⟩
  have HWB := Lib.hid (show wrap64 (10 + c0) = BF from wrap_at hBF (by omega) (by omega))
  have HW2 := Lib.hid (fun w => within_any a1 20 w (by omega) (by omega))
  have HLC := Lib.hid (And.intro hle hrc)
  clear h2 hc1 c00 hBF hle hrc
  go_enter Try.func4, Try.ntmps4
  go_wp2_with fail
  refine (HW1.out _).mono ?_
  rintro e w2 ⟨rfl, rfl⟩
  go_upto_if 29 with (fail)
  try rw [HWB.out]
  go_cut [1] (fun s1 wx => ∃ C : Int, s1 = .int .i64 C ∧ W = wx)
  case first =>
    by_cases h7 : a1.tmod 7 = 6
    · go_wp2
      go_meet
      exact ⟨_, rfl, rfl⟩
    · go_wp2_with fail
      refine (HW2.out _).mono ?_
      rintro e w2 ⟨rfl, rfl⟩
      go_wp2
      go_meet
      exact ⟨_, rfl, rfl⟩
  case rest =>
  obtain ⟨C, rfl, rfl⟩ := hcut
  clear HW1 HW2 HWB
  go_wp2_with fail
  have hp0 := newplan_any W
  obtain ⟨q, hq⟩ : ∃ b, W.heap.size = b := ⟨_, rfl⟩
  rw [hq] at hp0
  have HQ := Lib.hid hq
  clear hq
  refine hp0.mono ?_
  rintro e w3 ⟨rfl, h3, b3, -⟩
  rw [← HQ.out] at h3 b3
  have H3 := Lib.hid h3
  have HB3 := Lib.hid b3
  clear h3 b3 hp0
  go_wp2_with fail
  obtain ⟨w4, hw4⟩ : ∃ w, w3.alloc (.cells #[.int .i64 0, .slice none 0 0] tDPlan) = w := ⟨_, rfl⟩
  have hz4 : w4.heap.size = w3.heap.size + 1 := by rw [← hw4]; exact World.size_alloc _ _
  have hp5 := newout_any BF w4
  rw [hz4] at hp5
  obtain ⟨b, hb⟩ : ∃ b, w3.heap.size = b := ⟨_, rfl⟩
  have HB := Lib.hid hb
  rw [hb] at hp5
  rw [hw4, hb]
  have HW4 := Lib.hid hw4
  clear hz4 hb hw4
  obtain ⟨po, hpo⟩ : ∃ x, b + 1 = x := ⟨_, rfl⟩
  have HPO := Lib.hid hpo
  rw [hpo] at hp5
  clear hpo
  refine hp5.mono ?_
  rintro e w5 ⟨rfl, h5, b5, -⟩
  rw [← HPO.out, ← HB.out] at b5
  rw [← HW4.out] at b5
  have h5' : OutAt w5 (w3.heap.size + 1) po (.slice none 0 0) (Ou.new BF) := by rw [HB.out, HPO.out]; exact h5
  have H5 := Lib.hid h5'
  have HB5 := Lib.hid b5
  clear h5 h5' b5 hp5
  go_wp2_with fail
  have hp6 := newdout_any BF w5
  obtain ⟨xp, hxp⟩ : ∃ x, w5.heap.size = x := ⟨_, rfl⟩
  rw [hxp] at hp6
  have HXP := Lib.hid hxp
  clear hxp
  refine hp6.mono ?_
  rintro e w6 ⟨rfl, h6, b6, -⟩
  rw [← HXP.out] at h6 b6
  have hpm := PM.make (Below.refl _ _) H3.out HB3.out H5.out HB5.out h6 b6
  rw [HB.out, HXP.out, HQ.out] at hpm
  have H0 : Hid (PHead W w6 (q + 1) q po b xp (.slice none 0 0) 0) := Lib.hid ⟨_, _, _, _, _, _, _, hpm, ⟨Pl.new_ok, Ou.new_ok _, by simp [Pl.new, Ou.new, Ou.places], by simp⟩, rfl⟩
  clear h6 b6 hpm hp6 H3 HB3 H5 HB5 HW4 HPO HB HXP HQ
  go_wp2_with fail
  go_loopg [11, 12, 13] 40 (fun g lv tv iv wr => ∃ (k : Nat) (lim : Int) (A : Option Addr) (n c : Nat), k + g = 40 ∧ iv = .int .i64 k ∧ lv = .int .i64 lim ∧ 0 ≤ lim ∧ lim ≤ 5 + 9 * (k : Int) ∧ tv = .slice A n c ∧ n ≤ k ∧ Hid (PHead W wr (q + 1) q po b xp (.slice A n c) n))
  case atStart => exact ⟨0, 5, none, 0, 0, by omega, rfl, rfl, by omega, by omega, rfl, by omega, H0⟩
  case round =>
    clear H0
    obtain ⟨k, lim, At, n, ct, hk, rfl, rfl, l0, l1, rfl, hnk, hhd⟩ := hrel
    by_cases hlt : k < len2 ∧ k < 40
    · obtain ⟨t1, t2⟩ := hlt
      obtain ⟨v, vo, dv, xv, P, o, ts, hpm, hok, hlen⟩ := hhd.out
      clear hhd
      obtain ⟨ba, off, rfl, hcell⟩ := HA.out.cell (by omega)
      obtain ⟨x, hx⟩ : ∃ x, X2[k]? = some x := ⟨X2[k]'(by rw [HA.out.len]; exact t1), List.getElem?_eq_getElem _⟩
      obtain ⟨c1, c2, c3⟩ := hcell k x hx
      have hat := HA.out.each x (List.mem_of_getElem? hx)
      have d0 := cell_later hpm.bel c1
      have d1 := cell_later hpm.bel c2
      have d2 := cell_later hpm.bel c3
      have i1 : (k : Int) < (len2 : Int) := by omega
      have i2 : (k : Int) < 40 := by omega
      have i3 : (0 : Int) ≤ (k : Int) := by omega
      have HXX := Lib.hid hat
      obtain ⟨xl, hxl⟩ : ∃ xl, x.xs.length = xl := ⟨_, rfl⟩
      rw [hxl] at d2
      have HXL := Lib.hid hxl
      have HPM := Lib.hid hpm
      have HOK := Lib.hid hok
      have HLEN := Lib.hid hlen
      obtain ⟨nd, hnd⟩ : ∃ nd, x.d = nd := ⟨_, rfl⟩
      obtain ⟨nn, hnn⟩ : ∃ nn, x.n = nn := ⟨_, rfl⟩
      obtain ⟨xA, hxA⟩ : ∃ xA, x.A = xA := ⟨_, rfl⟩
      obtain ⟨xc, hxc⟩ : ∃ xc, x.c = xc := ⟨_, rfl⟩
      rw [hnd] at d0
      rw [hnn] at d1
      rw [hxA, hxc] at d2
      have HXA := Lib.hid hxA
      have HXC := Lib.hid hxc
      have HK := Lib.hid (And.intro hk (And.intro l0 (And.intro l1 hnk)))
      clear hcell hx c1 c2 c3 hat hxl hpm hok hlen hnd hnn hxA hxc l0 l1 hnk hk t1 t2
      go_wp2_with fail
      refine (within_any nd 12 _ (by omega) (by omega)).mono ?_
      rintro e w3 ⟨rfl, rfl⟩
      have y0 : 0 ≤ nd % 12 := Int.emod_nonneg nd (by decide)
      have y1 : nd % 12 < 12 := Int.emod_lt_of_pos nd (by decide)
      obtain ⟨M, hM⟩ : ∃ M, nd % 12 = M := ⟨_, rfl⟩
      rw [hM] at y0 y1 ⊢
      clear hM
      have e0 : (wr.alloc (.cells #[.int .i64 nd, .int .i64 nn, .slice xA xl xc] 51)).cell? ⟨wr.heap.size, 0 + 1, none⟩ = some (.int .i64 nn) := by go_simp
      have e1 : (wr.alloc (.cells #[.int .i64 nd, .int .i64 nn, .slice xA xl xc] 51)).cell? ⟨wr.heap.size, 0 + 2, none⟩ = some (.slice xA xl xc) := by go_simp
      obtain ⟨w3, hw3⟩ : ∃ w3, wr.alloc (.cells #[.int .i64 nd, .int .i64 nn, .slice xA xl xc] 51) = w3 := ⟨_, rfl⟩
      obtain ⟨z, hz⟩ : ∃ z, wr.heap.size = z := ⟨_, rfl⟩
      rw [hw3, hz] at e0 e1
      have HB3 : Hid (Below wr.heap.size wr w3) := Lib.hid (by rw [← hw3]; exact (Below.refl _ _).alloc (Nat.le_refl _) _)
      have H3 := Lib.hid (HPM.out.later HB3.out)
      have HRD : Hid (Rd .u8 w3 xA x.xs) := Lib.hid (by
        have := HXX.out.rd
        rw [HXA.out] at this
        exact this.later H3.out.bel)
      rw [hw3, hz]
      clear hw3 hz d0 d1 d2 HPM HB3
      go_upto_block 2 with (fail)
      go_cut [11, 12] (fun lv tv wx => ∃ (lim' : Int) (A : Option Addr) (n' c : Nat), lv = .int .i64 lim' ∧ 0 ≤ lim' ∧ lim' ≤ 5 + 9 * ((k : Int) + 1) ∧ tv = .slice A n' c ∧ n' ≤ k + 1 ∧ Hid (PHead W wx (q + 1) q po b xp (.slice A n' c) n'))
      case first =>
        have hM : (M = 0 ∨ M = 1 ∨ M = 2) ∨ M = 3 ∨ M = 4 ∨ M = 5 ∨ (M = 6 ∨ M = 7) ∨ (M = 8 ∨ M = 9 ∨ M = 10 ∨ M = 11) := by omega
        clear y0 y1
        rcases hM with hM | hM | hM | hM | hM | hM
        · have hroom := Ou.room_range HOK.out.oo
          obtain ⟨ys, hys⟩ : ∃ ys, x.xs.take 30 = ys := ⟨_, rfl⟩
          have hyl : ys.length ≤ 30 := by rw [← hys]; exact List.length_take_le _ _
          obtain ⟨L, hL⟩ : ∃ n, ys.length = n := ⟨_, rfl⟩
          rw [hL] at hyl
          have HCA := Lib.hid (Go.Proofs.Ytjpnpaacekdeeaa.cut_any xA xl xc 30 x.xs w3 HXL.out (by have := HXX.out.le; rw [HXL.out, HXC.out] at this; exact this) HRD.out (by have := HXX.out.len; rw [HXL.out] at this; exact this) (by omega) (by omega))
          rw [show (30 : Int).toNat = 30 from rfl, hys, hL] at HCA
          obtain ⟨K, hK⟩ : ∃ K : Nat, (K : Int) = min (L : Int) o.room := ⟨(min (L : Int) o.room).toNat, by omega⟩
          have HL := Lib.hid hL
          have HKK := Lib.hid hK
          have HYL := Lib.hid hyl
          clear hys hL hyl hK hroom e0
          rcases hM with rfl | rfl | rfl
          all_goals
            go_wp2_with fail
            refine HCA.out.mono ?_
            rintro e w4 ⟨A, c, rfl, ho, hb⟩
            have H4 := Lib.hid (H3.out.later hb)
            have HO := Lib.hid ho
            have HAP := Lib.hid (show Apart (.slice A L c) (Oft po vo) from fun g hg hf => by
              have h1 := (ho.lt g hg).1
              have h2 := H3.out.l2 g hf
              omega)
            clear ho hb
            go_wp2_with fail
            refine (H4.out.write A L c ys HL.out HO.out.rd HO.out.cap (by have := HYL.out; omega) K HKK.out).mono ?_
            rintro e w5 ⟨rfl, vo5, h5, s5⟩
            have H5 := Lib.hid h5
            have HO5 := Lib.hid (keep_own s5 HO.out HAP.out).1
            clear h5 s5 H4
            go_wp2_with fail
            refine (H5.out.dwrite A L c ys HL.out HO5.out.rd HO5.out.cap (by have := HYL.out; omega) K HKK.out).mono ?_
            rintro e w6 ⟨rfl, xv6, h6⟩
            have H6 := Lib.hid h6
            clear h6 H5
            go_wp2_with fail
            go_meet
            exact ⟨lim, At, n, ct, rfl, HK.out.2.1, by have := HK.out.2.2.1; omega, rfl, by have := HK.out.2.2.2; omega, Lib.hid ⟨_, _, _, _, _, _, ts, H6.out, HOK.out.more (by rw [List.length_take, HL.out]; have := HKK.out; omega), HLEN.out⟩⟩
        · subst hM
          by_cases h5 : nn.tmod 5 = 0
          · go_wp2_with fail
            refine H3.out.close.mono ?_
            rintro e w4 ⟨rfl, h4⟩
            have f3 := h4.dx.fr (0 + 3)
            have c3 := h4.dx.c3
            have H4 := Lib.hid h4.dclose
            clear h4
            go_wp2_with fail
            go_meet
            exact ⟨lim, At, n, ct, rfl, HK.out.2.1, by have := HK.out.2.2.1; omega, rfl, by have := HK.out.2.2.2; omega, Lib.hid ⟨_, _, _, _, _, _, ts, H4.out, HOK.out.shut, HLEN.out⟩⟩
          · go_wp2_with fail
            go_meet
            exact ⟨lim, At, n, ct, rfl, HK.out.2.1, by have := HK.out.2.2.1; omega, rfl, by have := HK.out.2.2.2; omega, Lib.hid ⟨_, _, _, _, _, _, ts, H3.out, HOK.out, HLEN.out⟩⟩
        · subst hM
          have hs0 := HOK.out.ok.s0
          have hs1 := HOK.out.ok.s1
          have r0 := H3.out.dp.c0
          obtain ⟨s, hs⟩ : ∃ s, P.sent = s := ⟨_, rfl⟩
          rw [hs] at hs0 hs1 r0
          have g1 : wrap64 (s + 1) = s + 1 := wrap_at rfl (by omega) (by omega)
          have HWI := Lib.hid (fun w => within_any nn (s + 1) w (by omega) (by omega))
          obtain ⟨K, hK⟩ : ∃ K, nn % (s + 1) = K := ⟨_, rfl⟩
          rw [hK] at HWI
          clear hs0 hs1 hs hK
          go_wp2_with fail
          go_quiet ((go_at_call 8; exact quiet_eq' (HWI.out _)))
          clear g1 r0
          have H4 := Lib.hid (H3.out.drewN nq)
          obtain ⟨mb, hmb⟩ : ∃ m, o.may K = m := ⟨_, rfl⟩
          have HMB := Lib.hid hmb
          clear hmb
          go_wp2_with fail
          refine (H4.out.ack K).mono ?_
          rw [HMB.out]
          rintro e w5 ⟨rfl, h5⟩
          have H5 := Lib.hid h5
          clear h5 H4
          go_wp2_with fail
          refine (H5.out.dack K).mono ?_
          rw [HMB.out]
          rintro e w6 ⟨rfl, h6⟩
          have H6 := Lib.hid h6
          clear h6 H5
          go_wp2_with fail
          go_meet
          exact ⟨lim, At, n, ct, rfl, HK.out.2.1, by have := HK.out.2.2.1; omega, rfl, by have := HK.out.2.2.2; omega, Lib.hid ⟨_, _, _, _, _, _, ts, H6.out, HOK.out.ack K, HLEN.out⟩⟩
        · subst hM
          have HWI := Lib.hid (fun w => within_any nn 9 w (by omega) (by omega))
          obtain ⟨K, hK⟩ : ∃ K, nn % 9 = K := ⟨_, rfl⟩
          have k0 : 0 ≤ K ∧ K < 9 := by rw [← hK]; exact ⟨Int.emod_nonneg _ (by omega), Int.emod_lt_of_pos _ (by omega)⟩
          rw [hK] at HWI
          have HLW := Lib.hid (show wrap64 (lim + K) = lim + K from wrap_at rfl (by have := HK.out.2.1; omega) (by have := HK.out.2.2.1; omega))
          clear hK
          go_wp2_with fail
          refine (HWI.out _).mono ?_
          rintro e w4 ⟨rfl, rfl⟩
          go_wp2_with fail
          go_meet
          exact ⟨lim + K, At, n, ct, by rw [HLW.out], by have := HK.out.2.1; omega, by have := HK.out.2.2.1; omega, rfl, by have := HK.out.2.2.2; omega, Lib.hid ⟨_, _, _, _, _, _, ts, H3.out, HOK.out, HLEN.out⟩⟩
        · by_cases hn : n = 0
          · subst hn
            rcases hM with rfl | rfl
            all_goals
              go_wp2_with fail
              go_meet
              exact ⟨lim, At, 0, ct, rfl, HK.out.2.1, by have := HK.out.2.2.1; omega, rfl, by omega, Lib.hid ⟨_, _, _, _, _, _, ts, H3.out, HOK.out, HLEN.out⟩⟩
          · have HWI := Lib.hid (fun w => within_any nn (n : Int) w (by omega) (by have := HK.out; omega))
            obtain ⟨jn, hjn⟩ : ∃ y : Nat, nn % (n : Int) = y := ⟨(nn % (n : Int)).toNat, by have := Int.emod_nonneg nn (show (n : Int) ≠ 0 by omega); omega⟩
            have hjk : jn < n := by have := Int.emod_lt_of_pos nn (show 0 < (n : Int) by omega); omega
            rw [hjn] at HWI
            have how := H3.out.ow
            obtain ⟨g, rfl, _⟩ := how.at (by omega)
            have x1 := (how.cells jn hjk).1
            have x2 := (how.cells jn hjk).2
            obtain ⟨⟨t0, t1⟩, hT⟩ : ∃ y, ts.getD jn (0, 0) = y := ⟨_, rfl⟩
            rw [hT] at x1 x2
            simp only [] at x1 x2
            have HTS := Lib.hid (show t1 ≤ P.sent from HOK.out.told (t0, t1) (by
              have hjl : jn < ts.length := by rw [HLEN.out]; exact hjk
              have : ts.getD jn (0, 0) = ts[jn] := by simp [List.getD, hjl]
              rw [← hT, this]
              exact List.getElem_mem _))
            have j1 : (0 : Int) ≤ (jn : Int) := by omega
            have j2 : (jn : Int) < (n : Int) := by omega
            have j3 : ((n : Int) > 0) := by omega
            clear hjn hjk how hT hn
            rcases hM with rfl | rfl
            all_goals
              go_wp2_with fail
              refine (HWI.out _).mono ?_
              rintro e w4 ⟨rfl, rfl⟩
              go_wp2_with fail
              have b0 : (w3.alloc (.cells #[.int .i64 t0, .int .i64 t1] 55)).cell? ⟨w3.heap.size, 0, none⟩ = some (.int .i64 t0) := by go_simp
              have b1 : (w3.alloc (.cells #[.int .i64 t0, .int .i64 t1] 55)).cell? ⟨w3.heap.size, 1, none⟩ = some (.int .i64 t1) := by go_simp
              have h4 := H3.out.later ((Below.refl _ _).alloc (Nat.le_refl _) (.cells #[.int .i64 t0, .int .i64 t1] 55))
              have hbx : ¬ Pft (q + 1) q v w3.heap.size := fun hh => by have := H3.out.l1 _ hh; omega
              have hbz : w3.heap.size < (w3.alloc (.cells #[.int .i64 t0, .int .i64 t1] 55)).heap.size := by rw [World.size_alloc]; omega
              obtain ⟨w4, hw4⟩ : ∃ w, w3.alloc (.cells #[.int .i64 t0, .int .i64 t1] 55) = w := ⟨_, rfl⟩
              obtain ⟨bx, hbx'⟩ : ∃ y, w3.heap.size = y := ⟨_, rfl⟩
              rw [hw4, hbx'] at b0 b1 hbz
              rw [hw4] at h4
              rw [hbx'] at hbx
              rw [hw4, hbx']
              have H4 := Lib.hid h4
              have HBX := Lib.hid hbx
              have HBZ := Lib.hid hbz
              clear h4 hbx hbz hw4 hbx' x1 x2
              refine (H4.out.lost t0 t1).mono ?_
              rintro e w5 ⟨rfl, v5, h5, s5⟩
              have u0 := (World.cell?_of_block (s5.trn.block bx HBZ.out HBX.out)).trans b0
              have u1 := (World.cell?_of_block (s5.trn.block bx HBZ.out HBX.out)).trans b1
              have H5 := Lib.hid h5
              clear h5 s5 H4 b0 b1
              go_wp2_with fail
              refine (H5.out.dlost t0 t1 HTS.out).mono ?_
              rintro e w6 ⟨rfl, dv6, h6⟩
              have H6 := Lib.hid h6
              clear h6 H5 u0 u1
              go_wp2_with fail
              go_meet
              exact ⟨lim, some ⟨g, 0, none⟩, n, ct, rfl, HK.out.2.1, by have := HK.out.2.2.1; omega, rfl, by have := HK.out.2.2.2; omega, Lib.hid ⟨_, _, _, _, _, _, ts, H6.out, HOK.out.lost t0 t1, HLEN.out⟩⟩
        · have hnx := HOK.out.next lim C
          obtain ⟨⟨kf, kt, kb, kp⟩, hX⟩ : ∃ X, P.next o lim C = X := ⟨_, rfl⟩
          rw [hX] at hnx
          simp only [] at hnx
          have HNX := Lib.hid hnx
          have HX := Lib.hid hX
          clear hnx hX e0 e1
          have m0 : ¬ M = 0 := by omega
          have m1 : ¬ M = 1 := by omega
          have m2 : ¬ M = 2 := by omega
          have m3 : ¬ M = 3 := by omega
          have m4 : ¬ M = 4 := by omega
          have m5 : ¬ M = 5 := by omega
          have m6 : ¬ M = 6 := by omega
          have m7 : ¬ M = 7 := by omega
          clear hM
          all_goals
            go_wp2_with fail
            refine (H3.out.next lim C _ HX.out).mono ?_
            rintro e w4 ⟨rfl, v4, h4⟩
            have H4 := Lib.hid h4
            clear h4
            go_wp2_with fail
            refine (H4.out.dnext HOK.out.ok HOK.out.sent lim C _ HX.out).mono ?_
            rintro e w5 ⟨rfl, dv5, h5⟩
            obtain ⟨A5, c5, w6, hr, h6⟩ := h5.app n HLEN.out (by have := HK.out; omega) kf kt
            have H5 := Lib.hid h5
            have H6 := Lib.hid h6
            clear h5 h6 H4
            cases kb
            · go_wp2_with fail
              go_meet
              exact ⟨lim, At, n, ct, rfl, HK.out.2.1, by have := HK.out.2.2.1; omega, rfl, by have := HK.out.2.2.2; omega, Lib.hid ⟨_, _, _, _, _, _, ts, H5.out, HNX.out.1, HLEN.out⟩⟩
            · go_wp2_with (at_builtin; refine Lib.wpList_append_run _ rfl _ _ _ _ rfl _ _ rfl rfl _ _ hr ?_)
              go_meet
              exact ⟨lim, A5, n + 1, c5, rfl, HK.out.2.1, by have := HK.out.2.2.1; omega, rfl, by have := HK.out.2.2.2; omega, Lib.hid ⟨_, _, _, _, _, _, _, H6.out, HNX.out.2, by rw [List.length_append, HLEN.out]; rfl⟩⟩
      case rest =>
      obtain ⟨lim', A', n', c', rfl, l0, l1, rfl, hnk, hhd⟩ := hcut
      obtain ⟨v2, vo2, dv2, xv2, P2, o2, ts2, hpm, hok, hlen⟩ := hhd.out
      have HPM := Lib.hid hpm
      have HOK2 := Lib.hid hok
      have HLEN2 := Lib.hid hlen
      clear hpm hok hlen hhd H3 HRD HXX HXL HXA HXC HOK HLEN e0 e1
      go_wp2_with fail
      refine HPM.out.same.mono ?_
      rintro e w7 ⟨rfl, h7⟩
      have H7 : Hid (PHead W w7 (q + 1) q po b xp (.slice A' n' c') n') := Lib.hid ⟨_, _, _, _, _, _, _, h7, HOK2.out, HLEN2.out⟩
      clear h7 HPM
      go_wp2_with fail
      go_roundg (gk - 1)
      case measure => have := HK.out.1; omega
      case rel => exact ⟨k + 1, lim', A', n', c', by have := HK.out.1; omega, by go_num, rfl, l0, by omega, rfl, hnk, H7⟩
    · rcases (show ¬ (k : Int) < (len2 : Int) ∨ ((k : Int) < (len2 : Int) ∧ ¬ (k : Int) < 40) by omega) with t0 | ⟨t0, t1⟩
      all_goals
        obtain ⟨v, vo, dv, xv, P, o, ts, hpm, hok, hlen⟩ := hhd.out
        have HBL := Lib.hid hpm.bel
        clear hlt hhd hpm hok hlen hk l0 l1 hnk
        go_wp2_with fail
        refine (wakesP_any _).mono ?_
        rintro e w9 ⟨rfl, b9⟩
        have HB9 := Lib.hid (HBL.out.trans (b9.mono HBL.out.size))
        clear b9
        go_wp2_with fail
        go_ret
        exact ⟨rfl, HB9.out⟩
end Go.Proofs.Ytjpnpaacekdeeaa
