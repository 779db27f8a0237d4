/-
  The walk of CwndPlays.
-/
import Derived.Test.YtciehckfdihphaaWindow
import Derived.Test.YtciehckfdihphaaWithin
import Derived.Test.YtciehckfdihphaaMem
import Derived.IntWalk
import Derived.Deep.LoopGhost
namespace Go.Proofs.Ytciehckfdihphaa
open Go.RowKit

theorem quiet_eq {P : Program} {f : Nat} {args : Array Value} {w : World} {n : Nat} {v : Value} (h : Calls P f args (w.drewN n) fun e w' => e = .returned v ∧ w.drewN n = w') :
    Calls P f args (w.drewN n) fun e w'' => e = .returned v ∧ ∃ m, w'' = w.drewN m := Calls.quiet_of_same (h.mono fun _ _ ⟨h1, h2⟩ => ⟨h1, h2.symm⟩)

set_option maxRecDepth 100000 in
set_option maxHeartbeats 8000000 in
theorem cwndPlays_walk (a0 : Int) (A : Option Addr) (n c : Nat) (xs : List Int) (a2 : Int) (w : World) (_ : (Lit.int .i64 a0).wf = true) (ha : ArgI .i64 8 w A n c xs) (_ : (Lit.int .i64 a2).wf = true) :
    Calls Try.prog 4 #[.int .i64 a0, .slice A n c, .int .i64 a2] w fun e w' => e = .returned (.bool true) ∧ Below w.heap.size w w' := by
  have r1 := ha.reach
  have l1 := ha.le
  have HA := Lib.hid ha
  clear ha
  have hw := within_any a0 20 w (by decide) (by decide)
  have n0 : 0 ≤ a0 % 20 := Int.emod_nonneg a0 (by decide)
  have n1 : a0 % 20 < 20 := Int.emod_lt_of_pos a0 (by decide)
  obtain ⟨f, hf⟩ : ∃ f, a0 % 20 = f := ⟨_, rfl⟩
  rw [hf] at hw n0 n1
  have HW := Lib.hid hw
  clear hw hf
  have hw := fun w => within_any a2 20 w (by decide) (by decide)
  have o0 : 0 ≤ a2 % 20 := Int.emod_nonneg a2 (by decide)
  have o1 : a2 % 20 < 20 := Int.emod_lt_of_pos a2 (by decide)
  obtain ⟨o, ho⟩ : ∃ o, a2 % 20 = o := ⟨_, rfl⟩
  rw [ho] at hw o0 o1
  have HO := Lib.hid hw
  clear hw ho
  obtain ⟨b, hb⟩ : ∃ b, w.heap.size = b := ⟨_, rfl⟩
  have HB := Lib.hid hb
  clear hb
  go_enter Try.func4, Try.ntmps4
  go_wp2_with fail
  all_goals
    try
      refine HW.out.mono ?_
      rintro e w' ⟨rfl, rfl⟩
      go_wp2_with fail
    refine (newwi_any _ _).mono ?_
    rintro e w1 ⟨rfl, h1, b1, z1⟩
    have H1 := Lib.hid h1
    have B1 := Lib.hid b1
    have bw1 := h1.lt
    clear h1 b1 z1 HW
    go_wp2_with fail
    refine (newrw_any _ _).mono ?_
    rintro e w2 ⟨rfl, h2, b2, z2⟩
    have hgs : ∃ g, Hid g.ok ∧ Hid (Wi w2 w.heap.size g) ∧ Hid (Rw w2 w1.heap.size g) := ⟨_, Lib.hid (Wn.new_ok _), Lib.hid (H1.out.later b2), Lib.hid h2⟩
    have B2 := Lib.hid (B1.out.trans (b2.mono B1.out.size))
    obtain ⟨g0, hk, H2, R2⟩ := hgs
    rw [HB.out] at H2 bw1
    rw [HB.out]
    obtain ⟨r, hr⟩ : ∃ r, w1.heap.size = r := ⟨_, rfl⟩
    rw [hr] at R2 bw1
    rw [hr]
    clear h2 b2 z2 hr B1 H1
    go_wp2_with fail
    go_loopw [9] (fun i wr => ∃ (j : Nat) (g : Wn), j ≤ n ∧ j ≤ 60 ∧ i = .int .i64 (j : Nat) ∧ Hid g.ok ∧ Hid (Wi wr b g) ∧ Hid (Rw wr r g) ∧ Hid (Below w.heap.size w wr)) (fun i _ => 60 - (intOf i).toNat)
    case atStart => exact ⟨0, g0, by omega, by omega, rfl, hk, H2, R2, B2⟩
    case round =>
      obtain ⟨j, g, hj, hj2, rfl, hst, hm, hr, hbl⟩ := hrel
      by_cases hlt : j < n ∧ j < 60
      · obtain ⟨hlt1, hlt2⟩ := hlt
        have q1 : decide ((j : Int) < (n : Int)) = true := by simp; omega
        have q2 : decide (j < n) = true := by simp; omega
        have q3 : (j : Int) < 60 := by omega
        have q4 : (0 : Int) ≤ (j : Int) := by omega
        obtain ⟨b', off', rfl, hc⟩ := (HA.out.rd.later hbl.out).some_ (by rw [HA.out.len]; omega)
        have c1 := hc j (by rw [HA.out.len]; exact hlt1)
        obtain ⟨x, hx⟩ : ∃ x, xs.getD j 0 = x := ⟨_, rfl⟩
        rw [hx] at c1
        clear hx hc
        have x0 : 0 ≤ x % 9 := Int.emod_nonneg x (by decide)
        have x1 : x % 9 < 9 := Int.emod_lt_of_pos x (by decide)
        have HX := Lib.hid (fun w => within_any x 9 w (by decide) (by decide))
        obtain ⟨y, hy⟩ : ∃ y, x % 9 = y := ⟨_, rfl⟩
        rw [hy] at HX x0 x1
        clear hy
        go_wp2_with fail
        refine (HX.out _).mono ?_
        rintro e w' ⟨rfl, rfl⟩
        clear HX c1
        have HK := Lib.hid (ack_any hm.out hst.out)
        have HL := Lib.hid (loss_any hm.out hst.out)
        have hcs : y = 0 ∨ y = 1 ∨ y = 2 ∨ y = 3 ∨ y = 4 ∨ y = 5 ∨ y = 6 ∨ y = 7 ∨ y = 8 := by omega
        clear x0 x1
        rcases hcs with rfl | rfl | rfl | rfl | rfl | rfl | rfl | rfl | rfl
        all_goals
          go_wp2_with fail
          first
            | (
              refine HK.out.mono ?_
              rintro e w2 ⟨rfl, h2, g2⟩
              have H2 := Lib.hid h2
              have R2 := Lib.hid (hr.out.other (show r ≠ b by omega) g2)
              have B2 := Lib.hid (own_grown hbl.out g2 (by rw [HB.out]; omega))
              clear h2 g2 hm hr hbl HK HL
              have HX := Lib.hid (rack_any R2.out hst.out)
              go_wp2_with fail
              refine HX.out.mono ?_
              rintro e w3 ⟨rfl, h3, g3⟩
              have R3 := Lib.hid h3
              have H3 := Lib.hid (H2.out.other (show b ≠ r by omega) g3)
              have B3 := Lib.hid (own_grown B2.out g3 (by rw [HB.out]; omega))
              have HG := Lib.hid (Wn.ack_ok hst.out)
              obtain ⟨g', hg'⟩ : ∃ g', g.ack = g' := ⟨_, rfl⟩
              rw [hg'] at R3 H3 HG
              clear h3 g3 H2 R2 B2 HX hg' hst
              )
            | (
              refine HL.out.mono ?_
              rintro e w2 ⟨rfl, h2, g2⟩
              have H2 := Lib.hid h2
              have R2 := Lib.hid (hr.out.other (show r ≠ b by omega) g2)
              have B2 := Lib.hid (own_grown hbl.out g2 (by rw [HB.out]; omega))
              clear h2 g2 hm hr hbl HK HL
              have HX := Lib.hid (rloss_any R2.out hst.out)
              go_wp2_with fail
              refine HX.out.mono ?_
              rintro e w3 ⟨rfl, h3, g3⟩
              have R3 := Lib.hid h3
              have H3 := Lib.hid (H2.out.other (show b ≠ r by omega) g3)
              have B3 := Lib.hid (own_grown B2.out g3 (by rw [HB.out]; omega))
              have HG := Lib.hid (Wn.loss_ok hst.out)
              obtain ⟨g', hg'⟩ : ∃ g', g.loss = g' := ⟨_, rfl⟩
              rw [hg'] at R3 H3 HG
              clear h3 g3 H2 R2 B2 HX hg' hst
              )
            | (
              have HC := Lib.hid (clonewi_any hm.out)
              obtain ⟨d, hd⟩ : ∃ d, wr.heap.size = d := ⟨_, rfl⟩
              have hbd : b < d := by rw [← hd]; exact hm.out.lt
              have hrd : r < d := by rw [← hd]; exact hr.out.lt
              rw [hd] at HC
              have HD := Lib.hid hd
              clear hd HK HL
              refine HC.out.mono ?_
              rintro e w2 ⟨rfl, h2, b2, z2⟩
              rw [← HD.out] at b2
              have C2 := Lib.hid h2
              have H2 := Lib.hid (hm.out.later b2)
              have R2 := Lib.hid (hr.out.later b2)
              have B2 := Lib.hid (hbl.out.trans (b2.mono hbl.out.size))
              clear h2 b2 z2 hm hr hbl HC HD
              have HK := Lib.hid (ack_any C2.out hst.out)
              go_wp2_with fail
              refine HK.out.mono ?_
              rintro e w4 ⟨rfl, h4, g4⟩
              have C4 := Lib.hid h4
              have H4 := Lib.hid (H2.out.other (show b ≠ d by omega) g4)
              have R4 := Lib.hid (R2.out.other (show r ≠ d by omega) g4)
              have B4 := Lib.hid (own_grown B2.out g4 (by rw [HB.out]; omega))
              clear h4 g4 C2 H2 R2 B2 HK
              have HL := Lib.hid (loss_any C4.out (Wn.ack_ok hst.out))
              go_wp2_with fail
              refine HL.out.mono ?_
              rintro e w3 ⟨rfl, h3, g3⟩
              have H3 := Lib.hid (H4.out.other (show b ≠ d by omega) g3)
              have R3 := Lib.hid (R4.out.other (show r ≠ d by omega) g3)
              have B3 := Lib.hid (own_grown B4.out g3 (by rw [HB.out]; omega))
              have HG := hst
              clear h3 g3 C4 H4 R4 B4 HL hst
              obtain ⟨g', hg'⟩ : ∃ g', g = g' := ⟨_, rfl⟩
              rw [hg'] at H3 R3 HG
              clear hg'
              )
          go_wp2_with fail
          refine (HO.out _).mono ?_
          rintro e w' ⟨rfl, rfl⟩
          have HS := Lib.hid (fun k => size_any (H3.out.drewN k))
          have HR := Lib.hid (fun k => room_any (o - 1) (H3.out.drewN k))
          have e1 := R3.out.c1
          obtain ⟨S, hS⟩ : ∃ S, g'.size = S := ⟨_, rfl⟩
          simp only [hS] at HS HR e1
          clear hS
          go_wp2_with fail
          go_quiet (first
            | (go_at_call 10; exact quiet_eq (HS.out _))
            | (go_at_call 17; exact quiet_eq (HR.out _)))
          go_wp2_with fail
          go_roundw
          case rel => exact ⟨j + 1, g', by omega, by omega, by go_num, HG, Lib.hid (H3.out.drewN nq), Lib.hid (R3.out.drewN nq), Lib.hid (below_drewN' B3.out nq)⟩
          case measure => simp [intOf]; omega
      · have hq : ¬ (j : Int) < (n : Int) ∨ ((j : Int) < (n : Int) ∧ ¬ (j : Int) < 60) := by omega
        rcases hq with hq | ⟨hq, hq2⟩
        all_goals
          go_wp2_with fail
          refine (wakesW_any _).mono ?_
          rintro e w13 ⟨rfl, b13⟩
          go_wp2
          go_ret
          exact ⟨rfl, hbl.out.trans (b13.mono hbl.out.size)⟩
end Go.Proofs.Ytciehckfdihphaa
