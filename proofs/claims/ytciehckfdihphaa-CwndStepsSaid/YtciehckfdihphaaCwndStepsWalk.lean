/-
  The walk of CwndSteps.
-/
import Derived.Test.YtciehckfdihphaaWindow
import Derived.Test.YtciehckfdihphaaWithin
import Derived.IntWalk
import Derived.Deep.LoopGhost
namespace Go.Proofs.Ytciehckfdihphaa
open Go.RowKit

/-- Ahead of any Loss, of the size S. -/
structure Fast (M S : Int) (g : Wn) : Prop where
  ok : g.ok
  most : g.most = M
  turn : g.turn = M
  size : g.size = S
theorem Fast.new {M : Int} (h1 : 1 ≤ M) (h2 : M ≤ 16) : Fast M (min 2 M) (Wn.new M) := by
  have e : clampI M 1 16 = M := by unfold clampI; omega
  exact ⟨Wn.new_ok M, e, e, by simp only [Wn.new, e]⟩
theorem Fast.next {M S : Int} {g : Wn} (h : Fast M S g) : Fast M (min (S + 1) M) g.ack := by
  refine ⟨Wn.ack_ok h.ok, (Wn.ack_most g).trans h.most, (Wn.ack_turn g).trans h.turn, ?_⟩
  rw [Wn.ack_fast h.ok (h.turn.trans h.most.symm), h.size, h.most]

set_option maxRecDepth 100000 in
set_option maxHeartbeats 4000000 in
theorem cwndSteps_walk (a0 a1 : Int) (w : World) (_ : (Lit.int .i64 a0).wf = true) (_ : (Lit.int .i64 a1).wf = true) :
    Calls Try.prog 3 #[.int .i64 a0, .int .i64 a1] w fun e w' => e = .returned (.bool true) ∧ Below w.heap.size w w' := by
  have hw := within_any a0 16 w (by decide) (by decide)
  have n0 : 0 ≤ a0 % 16 := Int.emod_nonneg a0 (by decide)
  have n1 : a0 % 16 < 16 := Int.emod_lt_of_pos a0 (by decide)
  obtain ⟨f, hf⟩ : ∃ f, a0 % 16 = f := ⟨_, rfl⟩
  rw [hf] at hw n0 n1
  have HW := Lib.hid hw
  clear hw hf
  have hw := within_any a1 20 w (by decide) (by decide)
  have o0 : 0 ≤ a1 % 20 := Int.emod_nonneg a1 (by decide)
  have o1 : a1 % 20 < 20 := Int.emod_lt_of_pos a1 (by decide)
  obtain ⟨k, ho⟩ := Int.eq_ofNat_of_zero_le o0
  rw [ho] at hw o0 o1
  have HO := Lib.hid hw
  clear hw ho
  obtain ⟨M, hM⟩ : ∃ M, 1 + f = M := ⟨_, rfl⟩
  have HN := Lib.hid (newwi_any M w)
  have M1 : 1 ≤ M := by omega
  have M16 : M ≤ 16 := by omega
  have hk := Lib.hid (Fast.new M1 M16)
  obtain ⟨g0, hg0⟩ : ∃ g, Wn.new M = g := ⟨_, rfl⟩
  rw [hg0] at HN hk
  clear hg0
  have hmin := run_min2 2 M _ rfl
  obtain ⟨S0, hS0⟩ : ∃ S, min 2 M = S := ⟨_, rfl⟩
  rw [hS0] at hk hmin
  have S1 : 1 ≤ S0 := by omega
  have S2 : S0 ≤ M := by omega
  clear hS0
  obtain ⟨b, hb⟩ : ∃ b, w.heap.size = b := ⟨_, rfl⟩
  rw [hb] at HN
  have HB := Lib.hid hb
  clear hb
  go_enter Try.func3, Try.ntmps3
  go_wp2_with fail
  refine HW.out.mono ?_
  rintro e w' ⟨rfl, rfl⟩
  go_wp2_with fail
  refine HO.out.mono ?_
  rintro e w' ⟨rfl, rfl⟩
  go_wp2_with fail
  refine HN.out.mono ?_
  rintro e w1 ⟨rfl, h1, b1, z1⟩
  have H1 := Lib.hid h1
  have B1 := Lib.hid (show Below w.heap.size w w1 by rw [HB.out]; exact b1)
  clear h1 b1 z1 HN HW HO hM
  go_wp2_with fail
  go_loopw [6, 7] (fun s i wr => ∃ (j : Nat) (S : Int) (g : Wn), j ≤ k ∧ i = .int .i64 (j : Nat) ∧ s = .int .i64 S ∧ 1 ≤ S ∧ S ≤ M ∧ Hid (Fast M S g) ∧ Hid (Wi wr b g) ∧ Hid (Below w.heap.size w wr)) (fun _ i _ => k - (intOf i).toNat)
  case atStart => exact ⟨0, S0, g0, by omega, rfl, rfl, S1, S2, hk, H1, B1⟩
  case round =>
    obtain ⟨j, S, g, hj, rfl, rfl, s1, s2, hst, hm, hbl⟩ := hrel
    by_cases hlt : j < k
    · have q3 : (j : Int) < (k : Int) := by omega
      have q4 : (0 : Int) ≤ (j : Int) := by omega
      have HK := Lib.hid (ack_any hm.out hst.out.ok)
      have hF := hst.out.next
      have hmn := run_min2 (S + 1) M _ rfl
      obtain ⟨T, hT⟩ : ∃ T, min (S + 1) M = T := ⟨_, rfl⟩
      rw [hT] at hF hmn
      have t1 : 1 ≤ T := by omega
      have t2 : T ≤ M := by omega
      obtain ⟨gk, hgk⟩ : ∃ gk, g.ack = gk := ⟨_, rfl⟩
      rw [hgk] at HK hF
      have HF := Lib.hid hF
      clear hgk hF hT hst
      go_wp2_with fail
      refine HK.out.mono ?_
      rintro e w2 ⟨rfl, h2, g2⟩
      have H2 := Lib.hid h2
      have B2 := Lib.hid (own_grown hbl.out g2 (by rw [HB.out]; exact Nat.le_refl _))
      clear h2 g2 hm hbl
      have HS := size_any H2.out
      rw [HF.out.size] at HS
      have HS' := Lib.hid HS
      clear HS
      go_wp2_with fail
      refine HS'.out.mono ?_
      rintro e w' ⟨rfl, rfl⟩
      go_wp2_with fail
      go_roundw
      case rel => exact ⟨j + 1, T, gk, by omega, by go_num, rfl, t1, t2, HF, H2, B2⟩
      case measure => simp [intOf]; omega
    · obtain rfl : j = k := by omega
      clear hlt hj
      have HL := Lib.hid (loss_any hm.out hst.out.ok)
      have q := Int.tdiv_eq_ediv_of_nonneg (a := S) (b := 2) (by omega)
      have hgl : g.loss = ⟨M, max (S / 2) 1, max (S / 2) 1, 0⟩ := by unfold Wn.loss; rw [hst.out.most, hst.out.size]
      rw [hgl] at HL
      obtain ⟨D, hD⟩ : ∃ D, S / 2 = D := ⟨_, rfl⟩
      rw [hD] at q HL
      have D0 : 0 ≤ D := by omega
      have D8 : D ≤ 8 := by omega
      have hmx := run_max2 D 1 _ rfl
      obtain ⟨H, hH⟩ := Int.eq_ofNat_of_zero_le (show 0 ≤ max D 1 by omega)
      rw [hH] at hmx HL
      have H1' : 1 ≤ H := by omega
      have H8 : H ≤ 8 := by omega
      have H2' : (H : Int) ≤ M := by omega
      clear hgl hD hH hst
      go_wp2_with fail
      refine HL.out.mono ?_
      rintro e w2 ⟨rfl, h2, g2⟩
      have H2 := Lib.hid h2
      have B2 := Lib.hid (own_grown hbl.out g2 (by rw [HB.out]; exact Nat.le_refl _))
      clear h2 g2 hm hbl HL
      have HS := size_any H2.out
      simp only at HS
      have HS' := Lib.hid HS
      clear HS
      go_wp2_with fail
      refine HS'.out.mono ?_
      rintro e w' ⟨rfl, rfl⟩
      clear HS'
      go_wp2_with fail
      go_loopw [9] (fun i wr => ∃ (j : Nat), j + 1 ≤ H ∧ i = .int .i64 (j : Nat) ∧ Hid (Wi wr b ⟨M, H, H, j⟩) ∧ Hid (Below w.heap.size w wr)) (fun i _ => H - (intOf i).toNat)
      case atStart => exact ⟨0, by omega, rfl, H2, B2⟩
      case round =>
        obtain ⟨j, hj, rfl, hm, hbl⟩ := hrel
        have hok : (⟨M, H, H, j⟩ : Wn).ok := by refine ⟨?_, ?_, ?_, ?_, ?_, ?_, ?_, ?_⟩ <;> simp only <;> omega
        have HK := Lib.hid (ack_any hm.out hok)
        by_cases hlt : j + 1 < H
        · have q3 : (j : Int) < (H : Int) - 1 := by omega
          have q4 : (0 : Int) ≤ (j : Int) := by omega
          rw [show (⟨M, H, H, j⟩ : Wn).ack = ⟨M, H, H, ((j + 1 : Nat) : Int)⟩ from Wn.ack_slow (Int.le_refl _) (by simp only; omega)] at HK
          go_wp2_with fail
          refine HK.out.mono ?_
          rintro e w2 ⟨rfl, h2, g2⟩
          have H2 := Lib.hid h2
          have B2 := Lib.hid (own_grown hbl.out g2 (by rw [HB.out]; exact Nat.le_refl _))
          clear h2 g2 hm hbl HK hok
          have HS := size_any H2.out
          simp only at HS
          have HS' := Lib.hid HS
          clear HS
          go_wp2_with fail
          refine HS'.out.mono ?_
          rintro e w' ⟨rfl, rfl⟩
          clear HS'
          go_wp2_with fail
          go_roundw
          case rel => exact ⟨j + 1, by omega, by go_num, H2, B2⟩
          case measure => simp [intOf]; omega
        · have hq : ¬ (j : Int) < (H : Int) - 1 := by omega
          have hmn := run_min2 ((H : Int) + 1) M _ rfl
          have hak : (⟨M, H, H, j⟩ : Wn).ack = ⟨M, min ((H : Int) + 1) M, H, 0⟩ := Wn.ack_up (Int.le_refl _) (by simp only; omega)
          rw [hak] at HK
          have T1 : 1 ≤ min ((H : Int) + 1) M := by omega
          have T2 : min ((H : Int) + 1) M ≤ M := by omega
          have TH : (H : Int) ≤ min ((H : Int) + 1) M := by omega
          obtain ⟨T, hT⟩ : ∃ T, min ((H : Int) + 1) M = T := ⟨_, rfl⟩
          rw [hT] at hmn HK T1 T2 TH
          clear hak hok hT hlt
          have q1 := Int.tdiv_eq_ediv_of_nonneg (a := T) (b := 2) (by omega)
          obtain ⟨D1, hD1⟩ : ∃ D1, T / 2 = D1 := ⟨_, rfl⟩
          rw [hD1] at q1
          have D10 : 0 ≤ D1 := by omega
          have D18 : D1 ≤ 8 := by omega
          have q2 := Int.tdiv_eq_ediv_of_nonneg (a := D1) (b := 2) (by omega)
          obtain ⟨D2, hD2⟩ : ∃ D2, D1 / 2 = D2 := ⟨_, rfl⟩
          rw [hD2] at q2
          have D20 : 0 ≤ D2 := by omega
          have D28 : D2 ≤ 4 := by omega
          have hmx2 := run_max2 D2 1 _ rfl
          obtain ⟨Q, hQ⟩ : ∃ Q, max D2 1 = Q := ⟨_, rfl⟩
          rw [hQ] at hmx2
          have hll : (⟨M, T, H, 0⟩ : Wn).loss.loss = ⟨M, Q, Q, 0⟩ := by
            simp only [Wn.loss, hD1]
            rw [show max (max D1 1 / 2) 1 = Q by omega]
          have HLL := Lib.hid hll
          have ok1 := Lib.hid (show (⟨M, T, H, 0⟩ : Wn).ok by refine ⟨?_, ?_, ?_, ?_, ?_, ?_, ?_, ?_⟩ <;> simp only <;> omega)
          clear hll hQ hD1 hD2
          go_wp2_with fail
          refine HK.out.mono ?_
          rintro e w2 ⟨rfl, h2, g2⟩
          have H2 := Lib.hid h2
          have B2 := Lib.hid (own_grown hbl.out g2 (by rw [HB.out]; exact Nat.le_refl _))
          clear h2 g2 hm hbl HK
          have HC := Lib.hid (clonewi_any H2.out)
          obtain ⟨d, hd⟩ : ∃ d, w2.heap.size = d := ⟨_, rfl⟩
          have hbd : b < d := by rw [← hd]; exact H2.out.lt
          rw [hd] at HC
          have HD := Lib.hid hd
          clear hd
          go_wp2_with fail
          refine HC.out.mono ?_
          rintro e w3 ⟨rfl, h3, b3, z3⟩
          rw [← HD.out] at b3
          have HC3 := Lib.hid h3
          have H3 := Lib.hid (H2.out.later b3)
          have B3 := Lib.hid (B2.out.trans (b3.mono B2.out.size))
          clear h3 b3 z3 H2 B2 HC HD
          have HS := size_any H3.out
          simp only at HS
          have HS' := Lib.hid HS
          clear HS
          go_wp2_with fail
          refine HS'.out.mono ?_
          rintro e w' ⟨rfl, rfl⟩
          clear HS'
          have HL := Lib.hid (loss_any HC3.out ok1.out)
          have ok2 := Lib.hid (Wn.loss_ok ok1.out)
          obtain ⟨c1, hc1⟩ : ∃ c, (⟨M, T, H, 0⟩ : Wn).loss = c := ⟨_, rfl⟩
          rw [hc1] at HL HLL ok2
          clear hc1
          go_wp2_with fail
          refine HL.out.mono ?_
          rintro e w4 ⟨rfl, h4, g4⟩
          have HC4 := Lib.hid h4
          have H4 := Lib.hid (H3.out.other (show b ≠ d by omega) g4)
          have B4 := Lib.hid (own_grown B3.out g4 (by rw [HB.out]; omega))
          clear h4 g4 HC3 H3 B3 HL
          have HL := Lib.hid (loss_any HC4.out ok2.out)
          rw [HLL.out] at HL
          clear HLL ok2 ok1
          go_wp2_with fail
          refine HL.out.mono ?_
          rintro e w5 ⟨rfl, h5, g5⟩
          have HC5 := Lib.hid h5
          have H5 := Lib.hid (H4.out.other (show b ≠ d by omega) g5)
          have B5 := Lib.hid (own_grown B4.out g5 (by rw [HB.out]; omega))
          clear h5 g5 HC4 H4 B4 HL
          have HN := Lib.hid (newwi_any (-3) w5)
          have HO1 := Lib.hid (show (Wn.new (-3)).ok ∧ (Wn.new (-3)).most = 1 from ⟨Wn.new_ok _, rfl⟩)
          obtain ⟨p1, hp1⟩ : ∃ g, Wn.new (-3) = g := ⟨_, rfl⟩
          rw [hp1] at HN HO1
          clear hp1
          obtain ⟨e1, he1⟩ : ∃ d, w5.heap.size = d := ⟨_, rfl⟩
          have hde : d < e1 := by rw [← he1]; exact HC5.out.lt
          rw [he1] at HN
          have HE1 := Lib.hid he1
          clear he1
          go_wp2_with fail
          refine HN.out.mono ?_
          rintro e w6 ⟨rfl, h6, b6, z6⟩
          rw [← HE1.out] at b6
          have HP6 := Lib.hid h6
          have HC6 := Lib.hid (HC5.out.later b6)
          have H6 := Lib.hid (H5.out.later b6)
          have B6 := Lib.hid (B5.out.trans (b6.mono B5.out.size))
          clear h6 b6 z6 H5 HC5 B5 HN HE1
          have HN := Lib.hid (newwi_any 25 w6)
          have HO2 := Lib.hid (show Fast 16 2 (Wn.new 25) from ⟨Wn.new_ok _, rfl, rfl, rfl⟩)
          obtain ⟨p2, hp2⟩ : ∃ g, Wn.new 25 = g := ⟨_, rfl⟩
          rw [hp2] at HN HO2
          clear hp2
          obtain ⟨e2, he2⟩ : ∃ d, w6.heap.size = d := ⟨_, rfl⟩
          have hee : e1 < e2 := by rw [← he2]; exact HP6.out.lt
          rw [he2] at HN
          have HE2 := Lib.hid he2
          clear he2
          go_wp2_with fail
          refine HN.out.mono ?_
          rintro e w7 ⟨rfl, h7, b7, z7⟩
          rw [← HE2.out] at b7
          have HA7 := Lib.hid h7
          have HP7 := Lib.hid (HP6.out.later b7)
          have HC7 := Lib.hid (HC6.out.later b7)
          have H7 := Lib.hid (H6.out.later b7)
          have B7 := Lib.hid (B6.out.trans (b7.mono B6.out.size))
          clear h7 b7 z7 H6 HC6 HP6 B6 HN HE2
          go_wp2_with fail
          go_loopw [13] (fun i wr => ∃ (t : Nat) (g1 g2 : Wn), t ≤ 40 ∧ i = .int .i64 (t : Nat) ∧ Hid (g1.ok ∧ g1.most = 1) ∧ Hid (Fast 16 (min (2 + (t : Int)) 16) g2) ∧ Hid (Wi wr b ⟨M, T, H, 0⟩) ∧ Hid (Wi wr d ⟨M, Q, Q, 0⟩) ∧ Hid (Wi wr e1 g1) ∧ Hid (Wi wr e2 g2) ∧ Hid (Below w.heap.size w wr)) (fun i _ => 40 - (intOf i).toNat)
          case atStart => exact ⟨0, p1, p2, by omega, rfl, HO1, HO2, H7, HC7, HP7, HA7, B7⟩
          case round =>
            obtain ⟨t, g1, g2, ht, rfl, hg1, hg2, hm, hc, hp, ha, hbl⟩ := hrel
            by_cases hlt : t < 40
            · have q3 : (t : Int) < 40 := by omega
              have q4 : (0 : Int) ≤ (t : Int) := by omega
              have HK := Lib.hid (ack_any hp.out hg1.out.1)
              have HO1 := Lib.hid (show g1.ack.ok ∧ g1.ack.most = 1 from ⟨Wn.ack_ok hg1.out.1, (Wn.ack_most g1).trans hg1.out.2⟩)
              have HO2 := Lib.hid (show Fast 16 (min (2 + ((t + 1 : Nat) : Int)) 16) g2.ack by
                have := hg2.out.next
                rw [show min (min (2 + (t : Int)) 16 + 1) 16 = min (2 + ((t + 1 : Nat) : Int)) 16 by omega] at this
                exact this)
              obtain ⟨g1', hg1'⟩ : ∃ g, g1.ack = g := ⟨_, rfl⟩
              rw [hg1'] at HK HO1
              clear hg1'
              go_wp2_with fail
              refine HK.out.mono ?_
              rintro e w8 ⟨rfl, h8, k8⟩
              have HP8 := Lib.hid h8
              have HA8 := Lib.hid (ha.out.other (show e2 ≠ e1 by omega) k8)
              have HC8 := Lib.hid (hc.out.other (show d ≠ e1 by omega) k8)
              have H8 := Lib.hid (hm.out.other (show b ≠ e1 by omega) k8)
              have B8 := Lib.hid (own_grown hbl.out k8 (by rw [HB.out]; omega))
              clear h8 k8 hm hc hp ha hbl HK
              have HK := Lib.hid (ack_any HA8.out hg2.out.ok)
              obtain ⟨g2', hg2'⟩ : ∃ g, g2.ack = g := ⟨_, rfl⟩
              rw [hg2'] at HK HO2
              clear hg2'
              go_wp2_with fail
              refine HK.out.mono ?_
              rintro e w9 ⟨rfl, h9, k9⟩
              have HA9 := Lib.hid h9
              have HP9 := Lib.hid (HP8.out.other (show e1 ≠ e2 by omega) k9)
              have HC9 := Lib.hid (HC8.out.other (show d ≠ e2 by omega) k9)
              have H9 := Lib.hid (H8.out.other (show b ≠ e2 by omega) k9)
              have B9 := Lib.hid (own_grown B8.out k9 (by rw [HB.out]; omega))
              clear h9 k9 HA8 HP8 HC8 H8 B8 HK
              go_wp2_with fail
              go_roundw
              case rel => exact ⟨t + 1, g1', g2', by omega, by go_num, HO1, HO2, H9, HC9, HP9, HA9, B9⟩
              case measure => simp [intOf]; omega
            · obtain rfl : t = 40 := by omega
              have z1 : g1.size = 1 := by
                have h1 := hg1.out.1.s1
                have h2 := hg1.out.1.s2
                rw [hg1.out.2] at h2
                omega
              have z2 : g2.size = 16 := hg2.out.size
              have HS := size_any hm.out
              have HSC := size_any hc.out
              have HSP := size_any hp.out
              have HSA := size_any ha.out
              rw [z1] at HSP
              rw [z2] at HSA
              simp only at HS HSC
              have HS' := Lib.hid HS
              have HSC' := Lib.hid HSC
              have HSP' := Lib.hid HSP
              have HSA' := Lib.hid HSA
              clear HS HSC HSP HSA z1 z2 hlt ht
              go_wp2_with fail
              refine HS'.out.mono ?_
              rintro e w' ⟨rfl, rfl⟩
              go_wp2_with fail
              refine HSC'.out.mono ?_
              rintro e w' ⟨rfl, rfl⟩
              go_wp2_with fail
              refine HSP'.out.mono ?_
              rintro e w' ⟨rfl, rfl⟩
              go_wp2_with fail
              refine HSA'.out.mono ?_
              rintro e w' ⟨rfl, rfl⟩
              go_wp2_with fail
              refine (wakesW_any _).mono ?_
              rintro e w13 ⟨rfl, b13⟩
              go_wp2
              go_ret
              exact ⟨rfl, hbl.out.trans (b13.mono hbl.out.size)⟩
end Go.Proofs.Ytciehckfdihphaa
