/-
  The walk of CwndBounds.
-/
import Derived.Test.YtciehckfdihphaaWindow
import Derived.Test.YtciehckfdihphaaWithin
import Derived.Test.YtciehckfdihphaaMem
import Derived.IntWalk
import Derived.Deep.LoopGhost
namespace Go.Proofs.Ytciehckfdihphaa
open Go.RowKit

set_option maxRecDepth 100000 in
set_option maxHeartbeats 4000000 in
theorem cwndBounds_walk (a0 : Int) (A : Option Addr) (n c : Nat) (xs : List Int) (w : World) (_ : (Lit.int .i64 a0).wf = true) (ha : ArgI .i64 8 w A n c xs) :
    Calls Try.prog 5 #[.int .i64 a0, .slice A n c] w fun e w' => e = .returned (.bool true) ∧ Below w.heap.size w w' := by
  have r1 := ha.reach
  have l1 := ha.le
  have HA := Lib.hid ha
  clear ha
  have hw := within_any a0 16 w (by decide) (by decide)
  have n0 : 0 ≤ a0 % 16 := Int.emod_nonneg a0 (by decide)
  have n1 : a0 % 16 < 16 := Int.emod_lt_of_pos a0 (by decide)
  obtain ⟨f, hf⟩ : ∃ f, a0 % 16 = f := ⟨_, rfl⟩
  rw [hf] at hw n0 n1
  have HW := Lib.hid hw
  clear hw hf
  obtain ⟨M, hM⟩ : ∃ M, 1 + f = M := ⟨_, rfl⟩
  have HN := Lib.hid (newwi_any M w)
  have hk := Lib.hid (Wn.new_ok M)
  have HM := Lib.hid (show (Wn.new M).most = M by simp only [Wn.new, clampI]; omega)
  have M1 : 1 ≤ M := by omega
  have M16 : M ≤ 16 := by omega
  obtain ⟨g0, hg0⟩ : ∃ g, Wn.new M = g := ⟨_, rfl⟩
  rw [hg0] at HN hk HM
  clear hg0
  obtain ⟨b, hb⟩ : ∃ b, w.heap.size = b := ⟨_, rfl⟩
  rw [hb] at HN
  have HB := Lib.hid hb
  clear hb
  go_enter Try.func5, Try.ntmps5
  go_wp2_with fail
  refine HW.out.mono ?_
  rintro e w' ⟨rfl, rfl⟩
  go_wp2_with fail
  refine HN.out.mono ?_
  rintro e w1 ⟨rfl, h1, b1, z1⟩
  have H1 := Lib.hid h1
  have B1 := Lib.hid (show Below w.heap.size w w1 by rw [HB.out]; exact b1)
  clear h1 b1 z1 HN HW hM
  go_wp2_with fail
  go_loopw [6] (fun i wr => ∃ (j : Nat) (g : Wn), j ≤ n ∧ j ≤ 40 ∧ i = .int .i64 (j : Nat) ∧ Hid (g.ok ∧ g.most = M) ∧ Hid (Wi wr b g) ∧ Hid (Below w.heap.size w wr)) (fun i _ => 40 - (intOf i).toNat)
  case atStart => exact ⟨0, g0, by omega, by omega, rfl, Lib.hid ⟨hk.out, HM.out⟩, H1, B1⟩
  case round =>
    obtain ⟨j, g, hj, hj2, rfl, hst, hm, hbl⟩ := hrel
    by_cases hlt : j < n ∧ j < 40
    · obtain ⟨hlt1, hlt2⟩ := hlt
      have q1 : decide ((j : Int) < (n : Int)) = true := by simp; omega
      have q2 : decide (j < n) = true := by simp; omega
      have q3 : (j : Int) < 40 := by omega
      have q4 : (0 : Int) ≤ (j : Int) := by omega
      obtain ⟨b', off', rfl, hc⟩ := (HA.out.rd.later hbl.out).some_ (by rw [HA.out.len]; omega)
      have c1 := hc j (by rw [HA.out.len]; exact hlt1)
      obtain ⟨x, hx⟩ : ∃ x, xs.getD j 0 = x := ⟨_, rfl⟩
      rw [hx] at c1
      clear hx hc
      have HZ := size_any hm.out
      have HL := Lib.hid (loss_any hm.out hst.out.1)
      have HK := Lib.hid (ack_any hm.out hst.out.1)
      have s1 := hst.out.1.s1
      have s2 := hst.out.1.s2
      have l4 : g.loss.size = max (g.size / 2) 1 := rfl
      have l5 := (Wn.loss_ok hst.out.1).s1
      have l6 := (Wn.loss_ok hst.out.1).s2
      have k1 := (Wn.ack_ok hst.out.1).s1
      have k2 := (Wn.ack_ok hst.out.1).s2
      have k4 := Wn.ack_size hst.out.1
      have hgm := hst.out.2
      rw [show g.loss.most = g.most from rfl, hgm] at l6
      rw [Wn.ack_most, hgm] at k2
      rw [hgm] at s2
      have HLO := Lib.hid (show g.loss.ok ∧ g.loss.most = M from ⟨Wn.loss_ok hst.out.1, hgm⟩)
      have HKO := Lib.hid (show g.ack.ok ∧ g.ack.most = M from ⟨Wn.ack_ok hst.out.1, (Wn.ack_most g).trans hgm⟩)
      clear hgm
      obtain ⟨gl, hgl⟩ : ∃ gl, g.loss = gl := ⟨_, rfl⟩
      obtain ⟨gk, hgk⟩ : ∃ gk, g.ack = gk := ⟨_, rfl⟩
      rw [hgl] at HL l4 l5 l6 HLO
      rw [hgk] at HK k1 k2 k4 HKO
      clear hgl hgk
      obtain ⟨S, hS⟩ : ∃ S, g.size = S := ⟨_, rfl⟩
      rw [hS] at HZ s1 s2 l4 k4
      have HZ' := Lib.hid HZ
      clear hS hst HZ
      have q := Int.tdiv_eq_ediv_of_nonneg (a := S) (b := 2) (by omega)
      obtain ⟨D, hD⟩ : ∃ D, S / 2 = D := ⟨_, rfl⟩
      rw [hD] at q l4
      have D0 : 0 ≤ D := by omega
      have D8 : D ≤ 8 := by omega
      have hmx := run_max2 D 1 _ rfl
      obtain ⟨T0, hT0⟩ : ∃ T0, max D 1 = T0 := ⟨_, rfl⟩
      rw [hT0] at hmx l4
      clear hT0 hD
      go_wp2_with fail
      refine HZ'.out.mono ?_
      rintro e w' ⟨rfl, rfl⟩
      clear HZ'
      go_wp2_with fail
      all_goals
        first
        | refine HL.out.mono ?_
          rintro e w2 ⟨rfl, h2, g2⟩
          have HG := Lib.hid HLO.out
          obtain ⟨T, hT⟩ : ∃ T, gl.size = T := ⟨_, rfl⟩
          rw [hT] at l4 l5 l6
          subst l4
          have u1 : 1 ≤ T := l5
          have u2 : T ≤ M := l6
          have HT := Lib.hid hT
          clear hT k4
          obtain ⟨g', hg'⟩ : ∃ g', gl = g' := ⟨_, rfl⟩
          rw [hg'] at h2 HG HT
          clear hg' HLO HL HKO HK k1 k2 l5 l6
          have hcase : T = T ∨ T = T + 1 := .inl rfl
        | refine HK.out.mono ?_
          rintro e w2 ⟨rfl, h2, g2⟩
          have HG := Lib.hid HKO.out
          obtain ⟨T, hT⟩ : ∃ T, gk.size = T := ⟨_, rfl⟩
          rw [hT] at k1 k2 k4
          have u1 : 1 ≤ T := k1
          have u2 : T ≤ M := k2
          have HT := Lib.hid hT
          clear hT l4
          obtain ⟨g', hg'⟩ : ∃ g', gk = g' := ⟨_, rfl⟩
          rw [hg'] at h2 HG HT
          clear hg' HLO HL HKO HK k1 k2 l5 l6
          have hcase := k4
          clear k4
        have H2 := Lib.hid h2
        have B2 := Lib.hid (own_grown hbl.out g2 (by rw [HB.out]; exact Nat.le_refl _))
        clear h2 g2 hm hbl c1
        have HS := size_any H2.out
        have HR1 := room_any 0 H2.out
        have HR2 := room_any T H2.out
        rw [HT.out] at HS HR1 HR2
        rw [decide_eq_true (show 0 < T by omega)] at HR1
        rw [decide_eq_false (show ¬ T < T by omega)] at HR2
        have HS' := Lib.hid HS
        have HR1' := Lib.hid HR1
        have HR2' := Lib.hid HR2
        clear HS HR1 HR2
        rcases hcase with hcase | hcase
        all_goals
          first
          | (exfalso; omega)
          | try subst hcase
            go_wp2_with fail
            refine HS'.out.mono ?_
            rintro e w' ⟨rfl, rfl⟩
            go_wp2_with fail
            refine HS'.out.mono ?_
            rintro e w' ⟨rfl, rfl⟩
            go_wp2_with fail
            refine HS'.out.mono ?_
            rintro e w' ⟨rfl, rfl⟩
            go_wp2_with fail
            try
              refine HS'.out.mono ?_
              rintro e w' ⟨rfl, rfl⟩
              go_wp2_with fail
            refine HR1'.out.mono ?_
            rintro e w' ⟨rfl, rfl⟩
            go_wp2_with fail
            refine HS'.out.mono ?_
            rintro e w' ⟨rfl, rfl⟩
            go_wp2_with fail
            refine HR2'.out.mono ?_
            rintro e w' ⟨rfl, rfl⟩
            go_wp2_with fail
            go_roundw
            case rel => exact ⟨j + 1, g', by omega, by omega, by go_num, HG, H2, B2⟩
            case measure => simp [intOf]; omega
    · have hq : ¬ (j : Int) < (n : Int) ∨ ((j : Int) < (n : Int) ∧ ¬ (j : Int) < 40) := by omega
      have HE := Lib.hid (show g.ok ∧ g.most = M ∧ g.near 0 from ⟨hst.out.1, hst.out.2, .inr (by have := Wn.far_le hst.out.1; omega)⟩)
      clear hst hlt hj hj2
      rcases hq with hq | ⟨hq, hq2⟩
      all_goals
        go_wp2_with fail
        go_loopw [8] (fun i wr => ∃ (t : Nat) (g : Wn), t ≤ 200 ∧ i = .int .i64 (t : Nat) ∧ Hid (g.ok ∧ g.most = M ∧ g.near t) ∧ Hid (Wi wr b g) ∧ Hid (Below w.heap.size w wr)) (fun i _ => 200 - (intOf i).toNat)
        case atStart => exact ⟨0, g, by omega, rfl, HE, hm, hbl⟩
        case round =>
          obtain ⟨t, g, ht, rfl, hst, hm, hbl⟩ := hrel
          by_cases hlt : t < 200
          · have q3 : (t : Int) < 200 := by omega
            have q4 : (0 : Int) ≤ (t : Int) := by omega
            have HK := Lib.hid (ack_any hm.out hst.out.1)
            have HKO := Lib.hid (show g.ack.ok ∧ g.ack.most = M ∧ g.ack.near (t + 1) from ⟨Wn.ack_ok hst.out.1, (Wn.ack_most g).trans hst.out.2.1, Wn.near_next hst.out.1 hst.out.2.2⟩)
            obtain ⟨gk, hgk⟩ : ∃ gk, g.ack = gk := ⟨_, rfl⟩
            rw [hgk] at HK HKO
            clear hgk
            go_wp2_with fail
            refine HK.out.mono ?_
            rintro e w2 ⟨rfl, h2, g2⟩
            have H2 := Lib.hid h2
            have B2 := Lib.hid (own_grown hbl.out g2 (by rw [HB.out]; exact Nat.le_refl _))
            clear h2 g2
            go_wp2_with fail
            go_roundw
            case rel => exact ⟨t + 1, gk, by omega, by go_num, HKO, H2, B2⟩
            case measure => simp [intOf]; omega
          · obtain rfl : t = 200 := by omega
            have HS := size_any hm.out
            rw [Wn.near_end hst.out.1 hst.out.2.2, hst.out.2.1] at HS
            have HS' := Lib.hid HS
            clear HS
            go_wp2_with fail
            refine HS'.out.mono ?_
            rintro e w' ⟨rfl, rfl⟩
            go_wp2_with fail
            refine (wakesW_any _).mono ?_
            rintro e w13 ⟨rfl, b13⟩
            go_wp2
            go_ret
            exact ⟨rfl, hbl.out.trans (b13.mono hbl.out.size)⟩
end Go.Proofs.Ytciehckfdihphaa
