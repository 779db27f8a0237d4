/-
  The walk of CwndRoom.
-/
import Derived.Test.YtciehckfdihphaaWindow
import Derived.Test.YtciehckfdihphaaWithin
import Derived.Test.YtciehckfdihphaaMem
import Derived.IntWalk
import Derived.Deep.LoopGhost
namespace Go.Proofs.Ytciehckfdihphaa
open Go.RowKit

set_option maxRecDepth 100000 in
set_option maxHeartbeats 4000000 in
theorem cwndRoom_walk (a0 : Int) (A : Option Addr) (n c : Nat) (xs : List Int) (a2 : Int) (w : World) (_ : (Lit.int .i64 a0).wf = true) (ha : ArgI .i64 8 w A n c xs) (_ : (Lit.int .i64 a2).wf = true) :
    Calls Try.prog 6 #[.int .i64 a0, .slice A n c, .int .i64 a2] w fun e w' => e = .returned (.bool true) ∧ Below w.heap.size w w' := by
  have r1 := ha.reach
  have l1 := ha.le
  have HA := Lib.hid ha
  clear ha
  have hw := within_any a0 16 w (by decide) (by decide)
  have n0 : 0 ≤ a0 % 16 := Int.emod_nonneg a0 (by decide)
  have n1 : a0 % 16 < 16 := Int.emod_lt_of_pos a0 (by decide)
  obtain ⟨f, hf⟩ : ∃ f, a0 % 16 = f := ⟨_, rfl⟩
  rw [hf] at hw n0 n1
  have HW := Lib.hid hw
  clear hw hf
  have hw := fun w => within_any a2 20 w (by decide) (by decide)
  have o0 : 0 ≤ a2 % 20 := Int.emod_nonneg a2 (by decide)
  have o1 : a2 % 20 < 20 := Int.emod_lt_of_pos a2 (by decide)
  obtain ⟨o, ho⟩ : ∃ o, a2 % 20 = o := ⟨_, rfl⟩
  rw [ho] at hw o0 o1
  have HO := Lib.hid hw
  clear hw ho
  have HN := Lib.hid (newwi_any (1 + f) w)
  have hk := Lib.hid (Wn.new_ok (1 + f))
  obtain ⟨g0, hg0⟩ : ∃ g, Wn.new (1 + f) = g := ⟨_, rfl⟩
  rw [hg0] at HN hk
  clear hg0
  obtain ⟨b, hb⟩ : ∃ b, w.heap.size = b := ⟨_, rfl⟩
  rw [hb] at HN
  have HB := Lib.hid hb
  clear hb
  go_enter Try.func6, Try.ntmps6
  go_wp2_with fail
  refine HW.out.mono ?_
  rintro e w' ⟨rfl, rfl⟩
  go_wp2_with fail
  refine HN.out.mono ?_
  rintro e w1 ⟨rfl, h1, b1, z1⟩
  have H1 := Lib.hid h1
  have B1 := Lib.hid (show Below w.heap.size w w1 by rw [HB.out]; exact b1)
  clear h1 b1 z1 HN HW
  go_wp2_with fail
  refine (HO.out _).mono ?_
  rintro e w' ⟨rfl, rfl⟩
  clear HO
  go_wp2_with fail
  go_loopw [8] (fun i wr => ∃ (j : Nat) (g : Wn), j ≤ n ∧ j ≤ 30 ∧ i = .int .i64 (j : Nat) ∧ Hid g.ok ∧ Hid (Wi wr b g) ∧ Hid (Below w.heap.size w wr)) (fun i _ => 30 - (intOf i).toNat)
  case atStart => exact ⟨0, g0, by omega, by omega, rfl, hk, H1, B1⟩
  case round =>
    obtain ⟨j, g, hj, hj2, rfl, hst, hm, hbl⟩ := hrel
    by_cases hlt : j < n ∧ j < 30
    · obtain ⟨hlt1, hlt2⟩ := hlt
      have q1 : decide ((j : Int) < (n : Int)) = true := by simp; omega
      have q2 : decide (j < n) = true := by simp; omega
      have q3 : (j : Int) < 30 := by omega
      have q4 : (0 : Int) ≤ (j : Int) := by omega
      obtain ⟨b', off', rfl, hc⟩ := (HA.out.rd.later hbl.out).some_ (by rw [HA.out.len]; omega)
      have c1 := hc j (by rw [HA.out.len]; exact hlt1)
      have HA' := Lib.hid (HA.out.rd.later hbl.out)
      obtain ⟨x, hx⟩ : ∃ x, xs.getD j 0 = x := ⟨_, rfl⟩
      rw [hx] at c1
      clear hx hc HA'
      have HR := Lib.hid (room_any o hm.out)
      have HL := Lib.hid (loss_any hm.out hst.out)
      have HK := Lib.hid (ack_any hm.out hst.out)
      have s1 := hst.out.s1
      have s2 := hst.out.s2
      have m2 := hst.out.m2
      have l1 := (Wn.loss_ok hst.out).s1
      have l2 := (Wn.loss_ok hst.out).s2
      have l3 : g.loss.most = g.most := rfl
      have l4 : g.loss.size = max (g.size / 2) 1 := rfl
      have k1 := (Wn.ack_ok hst.out).s1
      have k2 := (Wn.ack_ok hst.out).s2
      have k3 := Wn.ack_most g
      have k4 := Wn.ack_size hst.out
      have HLO := Lib.hid (Wn.loss_ok hst.out)
      have HKO := Lib.hid (Wn.ack_ok hst.out)
      obtain ⟨gl, hgl⟩ : ∃ gl, g.loss = gl := ⟨_, rfl⟩
      obtain ⟨gk, hgk⟩ : ∃ gk, g.ack = gk := ⟨_, rfl⟩
      rw [hgl] at HL l1 l2 l3 l4 HLO
      rw [hgk] at HK k1 k2 k3 k4 HKO
      rw [l3] at l2
      rw [k3] at k2
      clear hgl hgk l3 k3
      obtain ⟨S, hS⟩ : ∃ S, g.size = S := ⟨_, rfl⟩
      rw [hS] at HR s1 s2 l4 k4
      obtain ⟨M, hM⟩ : ∃ M, g.most = M := ⟨_, rfl⟩
      rw [hM] at s2 m2 l2 k2
      clear hS hM hst
      go_wp2_with fail
      refine HR.out.mono ?_
      rintro e w' ⟨rfl, rfl⟩
      clear HR
      go_wp2_with fail
      all_goals
        first
        | refine HL.out.mono ?_
          rintro e w2 ⟨rfl, h2, g2⟩
          have HG := Lib.hid HLO.out
          obtain ⟨T, hT⟩ : ∃ T, gl.size = T := ⟨_, rfl⟩
          have u1 : 1 ≤ T := by omega
          have u2 : T ≤ 16 := by omega
          have u3 : ¬ o < S → ¬ o < T := by omega
          have u4 : True := trivial
          have HT := Lib.hid hT
          clear hT l4
          obtain ⟨g', hg'⟩ : ∃ g', gl = g' := ⟨_, rfl⟩
          rw [hg'] at h2 HG HT
          clear hg' HLO HL HKO HK k1 k2 l1 l2 k4
        | refine HK.out.mono ?_
          rintro e w2 ⟨rfl, h2, g2⟩
          have HG := Lib.hid HKO.out
          obtain ⟨T, hT⟩ : ∃ T, gk.size = T := ⟨_, rfl⟩
          have u1 : 1 ≤ T := by omega
          have u2 : T ≤ 16 := by omega
          have u3 : o < S → o < T := by omega
          have u4 : True := trivial
          have HT := Lib.hid hT
          clear hT k4
          obtain ⟨g', hg'⟩ : ∃ g', gk = g' := ⟨_, rfl⟩
          rw [hg'] at h2 HG HT
          clear hg' HLO HL HKO HK k1 k2 l1 l2 l4
        have H2 := Lib.hid h2
        have B2 := Lib.hid (own_grown hbl.out g2 (by rw [HB.out]; exact Nat.le_refl _))
        clear h2 g2 hm hbl c1
        have HS := size_any H2.out
        have HR := room_any o H2.out
        have HR1 := room_any (-1 - o) H2.out
        have HR2 := room_any (17 + o) H2.out
        rw [HT.out] at HS HR HR1 HR2
        rw [decide_eq_true (show -1 - o < T by omega)] at HR1
        rw [decide_eq_false (show ¬ 17 + o < T by omega)] at HR2
        have HS' := Lib.hid HS
        have HR1' := Lib.hid HR1
        have HR2' := Lib.hid HR2
        clear HS HR1 HR2 u4
        by_cases ho : o < S
        all_goals
          by_cases hp : o < T
          all_goals
            first
            | (exfalso; omega)
            | first
              | rw [decide_eq_true hp] at HR
              | rw [decide_eq_false hp] at HR
              have HR' := Lib.hid HR
              clear HR u3
              go_wp2_with fail
              refine HR'.out.mono ?_
              rintro e w' ⟨rfl, rfl⟩
              go_wp2_with fail
              try
                refine HR'.out.mono ?_
                rintro e w' ⟨rfl, rfl⟩
                go_wp2_with fail
              refine HS'.out.mono ?_
              rintro e w' ⟨rfl, rfl⟩
              go_wp2_with fail
              refine HR1'.out.mono ?_
              rintro e w' ⟨rfl, rfl⟩
              go_wp2_with fail
              refine HR2'.out.mono ?_
              rintro e w' ⟨rfl, rfl⟩
              go_wp2_with fail
              go_roundw
              case rel => exact ⟨j + 1, g', by omega, by omega, by go_num, HG, H2, B2⟩
              case measure => simp [intOf]; omega
    · have hq : ¬ (j : Int) < (n : Int) ∨ ((j : Int) < (n : Int) ∧ ¬ (j : Int) < 30) := by omega
      rcases hq with hq | ⟨hq, hq2⟩
      all_goals
        go_wp2_with fail
        refine (wakesW_any _).mono ?_
        rintro e w13 ⟨rfl, b13⟩
        go_wp2
        go_ret
        exact ⟨rfl, hbl.out.trans (b13.mono hbl.out.size)⟩
end Go.Proofs.Ytciehckfdihphaa
