/-
  The walk of FlightTakes.
-/
import Derived.Test.YtdfgomnppepmnaaFlRow
import Derived.Test.YtdfgomnppepmnaaWithin
import Derived.Deep.LoopGhost
import Derived.Deep.CutBlock
import Derived.Deep.DeepCutAuto
namespace Go.Proofs.Ytdfgomnppepmnaa
open Go.RowKit

/-- At the first loop's head. -/
def THead1 (W wr : World) (p : Nat) (tv : Value) (i : Nat) : Prop := ∃ (v : Value) (ps : List Qd), FT W wr p v ps tv ps ∧ Unl ps ∧ ps.length = i ∧ ∀ j, j < i → (ps.getD j qz).n = 3 * (j : Int)
/-- At the second loop's head. -/
def THead2 (W wr : World) (p : Nat) (tv : Value) (m : Nat) : Prop := ∃ (v : Value) (ps : List Qd), FT W wr p v ps tv ps ∧ Unl ps ∧ ps.length = m

set_option maxRecDepth 100000 in
set_option maxHeartbeats 2000000 in
theorem flightTakes_walk (a0 : Option Addr) (l0 c0 : Nat) (x0 : List Int) (a1 : Int) (W : World) (h0 : ArgI .i64 8 W a0 l0 c0 x0) (_ : (Lit.int .i64 a1).wf = true) :
    Calls Try.prog 5 #[.slice a0 l0 c0, .int .i64 a1] W fun e W' => e = .returned (.bool true) ∧ Below W.heap.size W W' := by
  have k0 := h0.le
  have r0 := h0.reach
  have HA0 := Lib.hid h0
  have HNW := Lib.hid (newfl_any W)
  obtain ⟨p, hp⟩ : ∃ p, W.heap.size = p := ⟨_, rfl⟩
  rw [hp] at HNW
  have HP := Lib.hid hp
  have HW1 := Lib.hid (fun w => within_any a1 8 w (by omega) (by omega))
  have n0 : 0 ≤ a1 % 8 ∧ a1 % 8 < 8 := ⟨Int.emod_nonneg _ (by omega), Int.emod_lt_of_pos _ (by omega)⟩
  obtain ⟨N, hN⟩ : ∃ N : Nat, 1 + a1 % 8 = N := ⟨(1 + a1 % 8).toNat, by omega⟩
  have hNw : wrap64 (1 + a1 % 8) = (N : Int) := wrap_q hN (by omega) (by omega)
  have HN := Lib.hid (show 1 ≤ N ∧ N ≤ 8 by omega)
  obtain ⟨M, hM⟩ : ∃ M, a1 % 8 = M := ⟨_, rfl⟩
  rw [hM] at HW1 hNw
  clear h0 hp n0 hN hM
  go_enter Try.func5, Try.ntmps5
  go_wp2_with fail
  refine HNW.out.mono ?_
  rintro e w1 ⟨rfl, h1, b1, -⟩
  have hft : FT W w1 p (.slice none 0 0) [] (.slice none 0 0) [] := ⟨by rw [HP.out]; exact h1, OwnQ.nil _ _ _, fun g hg => by simp [Value.ownBlock] at hg, by rw [HP.out]; exact b1⟩
  have H0 : Hid (THead1 W w1 p (.slice none 0 0) 0) := Lib.hid ⟨_, _, hft, Unl.nil, rfl, fun j hj => by omega⟩
  clear h1 b1 hft HNW
  go_wp2_with fail
  refine (HW1.out _).mono ?_
  rintro e w2 ⟨rfl, rfl⟩
  go_wp2_with fail
  try rw [hNw]
  clear hNw HW1
  go_loopw [6, 7] (fun tv iv wr => ∃ (i : Nat) (A : Option Addr) (c : Nat), i ≤ N ∧ iv = .int .i64 i ∧ tv = .slice A i c ∧ Hid (THead1 W wr p (.slice A i c) i)) (fun _ iv _ => N - (intOf iv).toNat)
  case atStart => exact ⟨0, none, 0, by omega, rfl, rfl, H0⟩
  case round =>
    obtain ⟨i, At, ct, hi, rfl, rfl, hhd⟩ := hrel
    by_cases hin : i < N
    · obtain ⟨v, ps, hft, hun, hlen, hnum⟩ := hhd.out
      clear hhd
      have hN8 := HN.out
      obtain ⟨X, hX⟩ : ∃ X, 3 * (i : Int) = X := ⟨_, rfl⟩
      obtain ⟨Y, hY⟩ : ∃ Y, 10 * (i : Int) = Y := ⟨_, rfl⟩
      obtain ⟨Z, hZ⟩ : ∃ Z, Y + 4 = Z := ⟨_, rfl⟩
      obtain ⟨U, hU⟩ : ∃ U, (i : Int) / 2 = U := ⟨_, rfl⟩
      have w3 : wrap64 (3 * (i : Int)) = X := wrap_q hX (by omega) (by omega)
      have w10 : wrap64 (10 * (i : Int)) = Y := wrap_q hY (by omega) (by omega)
      have wU : wrap64 U = U := wrap_q rfl (by omega) (by omega)
      have w14 : wrap64 (Y + 4) = Z := wrap_q hZ (by omega) (by omega)
      have i1 : (i : Int) < (N : Int) := by omega
      have i2 : (0 : Int) ≤ (i : Int) := by omega
      have hno : NoneQ ps X := fun j hj => by rw [hnum j (by omega)]; omega
      have HNO := Lib.hid hno
      have HUN := Lib.hid hun
      have HX := Lib.hid hX
      have HLEN := Lib.hid hlen
      have HNUM := Lib.hid hnum
      have HIN := Lib.hid (And.intro hin hN8)
      have HIW := Lib.hid (show wrap64 ((i : Int) + 1) = ((i + 1 : Nat) : Int) from wrap_q (by omega) (by omega) (by omega))
      obtain ⟨b, hb⟩ : ∃ b, wr.heap.size = b := ⟨_, rfl⟩
      obtain ⟨wb, hwb⟩ : ∃ w, wr.alloc (.cells #[.int .i64 X, .int .i64 Y, .int .i64 Z, .int .i64 U] tOutP) = w := ⟨_, rfl⟩
      have HF := Lib.hid (show FT W wb p v ps (.slice At i ct) ps by rw [← hwb]; exact hft.alloc _)
      have hfb : FB wb p v b ⟨X, Y, Z, U⟩ := ⟨by rw [← hwb, ← hb]; exact Bx.new _ _ _ _ _ _, fun h => by have := hft.lf _ h; omega⟩
      have HFB := Lib.hid hfb
      obtain ⟨q0, q1, q2, q3⟩ := hfb.bx
      simp only [] at q0 q1 q2 q3
      clear hft hun hlen hnum hN8 hX hY hZ hno hfb hi hin
      go_wp2_with fail
      refine (fladd_yes HF.out.fl X Y Z U HNO.out (by have := HLEN.out; have := HIN.out; omega)).mono ?_
      rintro e w5 ⟨rfl, v5, h5, s5⟩
      have hft5 := HF.out.turn h5 s5
      have hfb5 := HFB.out.turn s5
      obtain ⟨A6, c6, w6, hr, h6⟩ := hft5.app i HLEN.out (by have := HIN.out; omega) ⟨X, Y, Z, U⟩
      obtain ⟨f0, f1, f2, f3⟩ := hfb5.bx
      simp only [] at f0 f1 f2 f3 hr
      have hun6 := HUN.out.app ⟨X, Y, Z, U⟩ HNO.out (by have := HX.out; have := HIN.out; simp only []; omega)
      have H6 : Hid (THead1 W w6 p (.slice A6 (i + 1) c6) (i + 1)) := Lib.hid ⟨_, _, h6, hun6, by rw [List.length_append, HLEN.out]; rfl, fun j hj => by
        by_cases e : j = i
        · have hl := HLEN.out
          rw [e, ← hl, getD_app_new, hl]
          exact HX.out.symm
        · rw [getD_app_lt _ _ j (by rw [HLEN.out]; omega)]
          exact HNUM.out j (by omega)⟩
      clear h5 s5 hft5 hfb5 h6 hun6 q0 q1 q2 q3 HF HFB HNO HUN HX HLEN HNUM
      go_wp2_with (at_builtin; refine wpList_app_r rfl _ _ 31 31 rfl _ _ rfl rfl hr ?_)
      clear hr
      go_roundw
      case rel => exact ⟨i + 1, A6, c6, by have := HIN.out; clear wU w3 w10 w14; omega, by rw [HIW.out], rfl, H6⟩
      case measure => rw [HIW.out]; have := HIN.out; clear wU w3 w10 w14; simp [intOf]; omega
    · have : i = N := by omega
      subst this
      obtain ⟨v, ps, hft, hun, hlen, hnum⟩ := hhd.out
      have H1 : Hid (THead2 W wr p (.slice At i ct) i) := Lib.hid ⟨_, _, hft, hun, hlen⟩
      have j1 : ¬ ((i : Int) < (i : Int)) := by omega
      clear hhd hft hun hlen hnum hi hin H0
      go_wp2_with fail
      clear j1
      go_loopw [6, 9] (fun tv iv wr => ∃ (k : Nat) (A : Option Addr) (m c : Nat), k ≤ 16 ∧ iv = .int .i64 k ∧ tv = .slice A m c ∧ m ≤ 8 ∧ Hid (THead2 W wr p (.slice A m c) m)) (fun _ iv _ => 16 - (intOf iv).toNat)
      case atStart => exact ⟨0, At, i, ct, by omega, rfl, rfl, HN.out.2, H1⟩
      case round =>
        clear H1
        obtain ⟨k, A, m, c, hk16, rfl, rfl, hm8, hhd⟩ := hrel
        by_cases hlt : k < l0 ∧ k < 16 ∧ 0 < m
        · obtain ⟨t0, t1, t2⟩ := hlt
          obtain ⟨v, ps, hft, hun, hlen⟩ := hhd.out
          clear hhd
          obtain ⟨b0, o0, rfl, y0⟩ := HA0.out.cellAt2 hft.bel k t0
          have i0 : (k : Int) < (l0 : Int) := by omega
          have i3 : (k : Int) < 16 := by omega
          have i4 : (0 : Int) ≤ (k : Int) := by omega
          have i5 : (m : Int) > 0 := by omega
          obtain ⟨x, hx⟩ : ∃ x, x0.getD k 0 = x := ⟨_, rfl⟩
          rw [hx] at y0
          have HYX := Lib.hid (And.intro t0 hx)
          obtain ⟨j, hj⟩ : ∃ y : Nat, x % (m : Int) = y := ⟨(x % (m : Int)).toNat, by have := Int.emod_nonneg x (show (m : Int) ≠ 0 by omega); omega⟩
          have hjm : j < m := by have := Int.emod_lt_of_pos x (show 0 < (m : Int) by omega); omega
          have HWI := Lib.hid (fun w => within_any x (m : Int) w (by omega) (by omega))
          rw [hj] at HWI
          obtain ⟨g, rfl, _⟩ := hft.ow.at t2
          obtain ⟨y1, y2, y3, y4⟩ := hft.ow.cells j hjm
          obtain ⟨⟨g1, g2, g3, g4⟩, hq⟩ : ∃ q, ps.getD j qz = q := ⟨_, rfl⟩
          rw [hq] at y1 y2 y3 y4
          simp only [] at y1 y2 y3 y4
          have hfi := hun.first j (by omega)
          have hfr := hun.free j (by omega)
          have hon := hun.one j (by omega)
          rw [hq] at hfi hfr hon
          simp only [] at hfi hfr hon
          have j0 : (j : Int) < (m : Int) := by omega
          have j1 : (0 : Int) ≤ (j : Int) := by omega
          have HFI := Lib.hid hfi
          have HFR := Lib.hid hfr
          have HON := Lib.hid hon
          have HUN := Lib.hid hun
          have HLEN := Lib.hid hlen
          have HQ := Lib.hid hq
          have HJM := Lib.hid (show j < m ∧ m ≤ 8 from ⟨hjm, hm8⟩)
          have HK := Lib.hid t1
          obtain ⟨b, hb⟩ : ∃ b, wr.heap.size = b := ⟨_, rfl⟩
          obtain ⟨wb, hwb⟩ : ∃ w, wr.alloc (.cells #[.int .i64 g1, .int .i64 g2, .int .i64 g3, .int .i64 g4] tOutP) = w := ⟨_, rfl⟩
          have HF := Lib.hid (show FT W wb p v ps (.slice (some ⟨g, 0, none⟩) m c) ps by rw [← hwb]; exact hft.alloc _)
          have hfb : FB wb p v b ⟨g1, g2, g3, g4⟩ := ⟨by rw [← hwb, ← hb]; exact Bx.new _ _ _ _ _ _, fun h => by have := hft.lf _ h; omega⟩
          have HFB := Lib.hid hfb
          obtain ⟨q0, q1, q2, q3⟩ := hfb.bx
          simp only [] at q0 q1 q2 q3
          clear hft hun hlen hx hj hjm hq hfi hfr hon hfb t0 t1 t2 hk16 hm8
          go_wp2_with fail
          refine (HWI.out _).mono ?_
          rintro e w3 ⟨rfl, rfl⟩
          clear HWI
          go_wp2_with fail
          refine (fladd_no HF.out.fl g1 0 0 0 j HFI.out (by have := HLEN.out; have := HJM.out; omega)).mono ?_
          rintro e w4 ⟨rfl, b4⟩
          have H4 := Lib.hid (HF.out.later b4)
          have HFB4 := Lib.hid (HFB.out.later b4)
          obtain ⟨d0, d1, d2, d3⟩ := HFB4.out.bx
          simp only [] at d0 d1 d2 d3
          clear b4 HF HFB q0 q1 q2 q3 hwb hb
          go_wp2_with fail
          refine (fltake_yes H4.out.fl g1 j HFI.out _ HQ.out (by have := HLEN.out; have := HJM.out; omega)).mono ?_
          rintro e w5 ⟨rfl, v5, h5, s5⟩
          have hT5 := H4.out.turn h5 s5
          have hf5 := HFB4.out.turn s5
          obtain ⟨b2, hb2⟩ : ∃ b, w5.heap.size = b := ⟨_, rfl⟩
          obtain ⟨wc, hwc⟩ : ∃ w, w5.alloc (.cells #[.int .i64 g1, .int .i64 g2, .int .i64 g3, .int .i64 g4] tOutP) = w := ⟨_, rfl⟩
          have hbc : Below w5.heap.size w5 wc := by rw [← hwc]; exact (Below.refl _ _).alloc (Nat.le_refl _) _
          have H5 := Lib.hid (hT5.later hbc)
          have HFB5 := Lib.hid (hf5.later hbc)
          have hb5 : Bx wc b2 ⟨g1, g2, g3, g4⟩ := by rw [← hwc, ← hb2]; exact Bx.new _ _ _ _ _ _
          have HBX5 := Lib.hid hb5
          obtain ⟨e0, e1, e2, e3⟩ := HFB5.out.bx
          simp only [] at e0 e1 e2 e3
          clear h5 s5 hT5 hf5 hbc hb5 d0 d1 d2 d3 H4 HFB4
          go_wp2_with fail
          refine (fltake_no H5.out.fl g1 HFR.out (by have := goneQ_len (show j < ps.length by rw [HLEN.out]; exact HJM.out.1); have := HLEN.out; have := HJM.out; omega)).mono ?_
          rintro e w6 ⟨rfl, b6⟩
          obtain ⟨b3, hb3⟩ : ∃ b, w6.heap.size = b := ⟨_, rfl⟩
          have hbd : Below w6.heap.size w6 (w6.alloc (.cells #[.int .i64 0, .int .i64 0, .int .i64 0, .int .i64 0] tOutP)) := (Below.refl _ _).alloc (Nat.le_refl _) _
          have H6 := Lib.hid ((H5.out.later b6).later hbd)
          have HFB6 := Lib.hid ((HFB5.out.later b6).later hbd)
          have HBX6 := Lib.hid ((HBX5.out.later b6).later hbd)
          have hb6 : Bx (w6.alloc (.cells #[.int .i64 0, .int .i64 0, .int .i64 0, .int .i64 0] tOutP)) b3 qz := by rw [← hb3]; exact Bx.new _ _ _ _ _ _
          obtain ⟨f0, f1, f2, f3⟩ := HFB6.out.bx
          obtain ⟨g0', g1', g2', g3'⟩ := HBX6.out
          obtain ⟨z0, z1, z2, z3⟩ := hb6
          simp only [qz] at f0 f1 f2 f3 g0' g1' g2' g3' z0 z1 z2 z3
          clear b6 hbd e0 e1 e2 e3 H5 HFB5 HBX5 hwc hb2
          go_wp2_with fail
          clear g0' g1' g2' g3' z0 z1 z2 z3 hb3 f0 f1 f2 f3 HBX6
          obtain ⟨wd, hwd⟩ : ∃ w, w6.alloc (.cells #[.int .i64 0, .int .i64 0, .int .i64 0, .int .i64 0] tOutP) = w := ⟨_, rfl⟩
          rw [hwd] at H6 HFB6 ⊢
          clear hwd
          -- the row without it
          obtain ⟨WZ, hWZ⟩ : ∃ w, wd.drew = w := ⟨_, rfl⟩
          have hX : FT W WZ p v5 (goneQ ps j) (.slice (some ⟨g, 0, none⟩) m c) ps := by rw [← hWZ]; exact H6.out.drewN 1
          have hfz : FB WZ p v5 b ⟨g1, g2, g3, g4⟩ := by rw [← hWZ]; exact HFB6.out.later ⟨rfl, rfl, rfl, Nat.le_refl _, fun _ _ => rfl⟩
          have ho := hX.ow
          have hcap := ho.cap
          have hjm := HJM.out
          obtain ⟨j2, hj2⟩ : ∃ j2, j2 = j + 1 := ⟨_, rfl⟩
          have HIW := Lib.hid (show wrap64 ((j : Int) + 1) = (j2 : Int) from wrap_q (by omega) (by omega) (by omega))
          obtain ⟨n, hn⟩ : ∃ n, j2 + n = m := ⟨m - j2, by omega⟩
          obtain ⟨S, hS⟩ : ∃ S, (if c = j2 then some (⟨g, 0, none⟩ : Addr) else (some (⟨g, 0, none⟩ : Addr)).map (·.add (j2 * 4))) = S := ⟨_, rfl⟩
          have hl2 := fun W => slice_h4 (P := Try.prog) 31 Try.underlying31 sizeFo (some ⟨g, 0, none⟩) m c j (by omega) W
          have hl3 := fun W => slice_l4 (P := Try.prog) 31 Try.underlying31 sizeFo (some ⟨g, 0, none⟩) m c j2 n hn W
          rw [hS] at hl3
          obtain ⟨A1, c1, w7, hrun1, ho1, hg1, hf1⟩ := run_app4 (P := Try.prog) WZ 31 31 tOutP _ Try.underlying31 info_fo rfl WZ.heap.size (.slice none 0 0) [] (OwnQ.nil _ _ _) (some ⟨g, 0, none⟩) j c (ps.take j) (by rw [List.length_take]; have := HLEN.out; omega) (fun h0 => (ho.cut j (by omega)).src0 h0) (by simp; omega) (Nat.le_refl _)
          rw [List.nil_append] at ho1
          rw [show ([] : List Qd).length + j = j by simp] at hrun1 ho1
          have hb1 : Below WZ.heap.size WZ w7 := (Trn.of_grown hg1).below (Nat.le_refl _) (fun k hk => by simp [Value.ownBlock] at hk)
          have hsrc : 0 < n → ∃ ad, S = some ad ∧ ∀ k u, (qds (ps.drop j2))[k]? = some u → w7.cell? (ad.add k) = some u := fun h0 => by
            rw [if_neg (by omega)] at hS
            refine ⟨⟨g, j2 * 4, none⟩, by rw [← hS]; simp [Addr.add_lit], ?_⟩
            have := (ho.later hb1).src j2
            exact this
          obtain ⟨A2, c2, w8, hrun2, ho2, hg2, hf2⟩ := run_app4 (P := Try.prog) w7 31 31 tOutP _ Try.underlying31 info_fo rfl WZ.heap.size (.slice A1 j c1) (ps.take j) ho1 S n (c - j2) (ps.drop j2) (by rw [List.length_drop, HLEN.out]; omega) hsrc (by rw [List.length_take]; omega) hb1.size
          rw [show (ps.take j).length + n = j + n by rw [List.length_take, HLEN.out]; omega] at hrun2 ho2
          rw [show ps.take j ++ ps.drop j2 = goneQ ps j by rw [hj2]; rfl] at ho2
          have hb2 : Below WZ.heap.size WZ w8 := hb1.trans ((Trn.of_grown hg2).below hb1.size (fun k hk => (ho1.lt k hk).1))
          have H8 := Lib.hid (hX.row hb2 ho2)
          have HFB8 := Lib.hid (hfz.later hb2)
          have HJN := Lib.hid (show j + n = m - 1 ∧ j + n ≤ 7 by omega)
          have y0' : w8.cell? ⟨b0, o0 + k, none⟩ = some (.int .i64 x) := by have := HA0.out.cellAt3 H8.out.bel k HYX.out.1; rw [HYX.out.2] at this; exact this
          clear hX hfz ho hcap hjm hj2 hn hS ho1 hg1 hf1 hb1 hsrc ho2 hg2 hf2 hb2 H6 HFB6
          have hiw : wrap64 ((j : Int) + 1) = (j2 : Int) := HIW.out
          have hiw2 : IntKind.i64.wrap ((j : Int) + 1) = (j2 : Int) := (IntWalk.i64_left _).trans hiw
          clear HIW
          refine wp_region_held_drew (S := fun _ => True) (by kernel_rfl) trivial ?_
          intro hHeld
          rw [hWZ]
          clear hWZ
          refine wpAnyH_take (i := 0) (v := ?_) rfl (by kernel_rfl) (by kernel_rfl) (by kernel_rfl) (fun _ _ _ h => h) (Or.inl ⟨by rfl, ?_⟩) (by assumption) ?_
          rotate_left
          · intro w hSw
            (try dsimp only at hSw)
            go_simp
            try (with_reducible rfl)
          try simp only [Act.put, List.getElem_toArray, List.getElem_cons_zero, List.setIfInBounds_toArray, List.set_cons_zero, List.set_cons_succ]
          refine wpAnyH_take (i := 1) (v := ?_) rfl (by kernel_rfl) (by kernel_rfl) (by kernel_rfl) (fun _ _ _ h => h) (Or.inl ⟨by rfl, ?_⟩) (by assumption) ?_
          rotate_left
          · intro w hSw
            (try dsimp only at hSw)
            go_simp
            try (with_reducible rfl)
          try simp only [Act.put, List.getElem_toArray, List.getElem_cons_zero, List.getElem_cons_succ, List.setIfInBounds_toArray, List.set_cons_zero, List.set_cons_succ]
          refine wpAnyH_take (i := 2) (v := ?_) rfl (by kernel_rfl) (by kernel_rfl) (by kernel_rfl) (fun _ _ _ h => h) (Or.inl ⟨by rfl, ?_⟩) (by assumption) ?_
          rotate_left
          · intro w hSw
            (try dsimp only at hSw)
            go_simp
            try (with_reducible rfl)
          try simp only [Act.put, List.getElem_toArray, List.getElem_cons_zero, List.getElem_cons_succ, List.setIfInBounds_toArray, List.set_cons_zero, List.set_cons_succ]
          refine wpAnyH_take (i := 4) (v := ?_) rfl (by kernel_rfl) (by kernel_rfl) (by kernel_rfl) (fun _ _ _ h => h) (Or.inl ⟨by rfl, ?_⟩) (by assumption) ?_
          rotate_left
          · intro w hSw
            (try dsimp only at hSw)
            go_simp
            try (with_reducible rfl)
          try simp only [Act.put, List.getElem_toArray, List.getElem_cons_zero, List.getElem_cons_succ, List.setIfInBounds_toArray, List.set_cons_zero, List.set_cons_succ]
          refine wpAnyH_take (i := 5) (v := ?_) rfl (by kernel_rfl) (by kernel_rfl) (by kernel_rfl) (fun _ _ _ h => h) (Or.inl ⟨by rfl, ?_⟩) (by assumption) ?_
          rotate_left
          · intro w hSw
            (try dsimp only at hSw)
            go_simp
            try (with_reducible rfl)
          try simp only [Act.put, List.getElem_toArray, List.getElem_cons_zero, List.getElem_cons_succ, List.setIfInBounds_toArray, List.set_cons_zero, List.set_cons_succ]
          refine wpAnyH_take (i := 6) (v := ?_) rfl (by kernel_rfl) (by kernel_rfl) (by kernel_rfl) (fun _ _ _ h => h) (Or.inl ⟨by rfl, ?_⟩) (by assumption) ?_
          rotate_left
          · intro w hSw
            (try dsimp only at hSw)
            go_simp
            try (with_reducible rfl)
          try simp only [Act.put, List.getElem_toArray, List.getElem_cons_zero, List.getElem_cons_succ, List.setIfInBounds_toArray, List.set_cons_zero, List.set_cons_succ]
          refine wpAnyH_take (i := 7) (v := ?_) rfl (by kernel_rfl) (by kernel_rfl) (by kernel_rfl) (fun _ _ _ h => h) (Or.inl ⟨by rfl, ?_⟩) (by assumption) ?_
          rotate_left
          · intro w hSw
            (try dsimp only at hSw)
            go_simp
            try (with_reducible rfl)
          try simp only [Act.put, List.getElem_toArray, List.getElem_cons_zero, List.getElem_cons_succ, List.setIfInBounds_toArray, List.set_cons_zero, List.set_cons_succ]
          refine wpAnyH_ready (rs := [3]) (by kernel_rfl) (by simp) ?_
          refine AllReadyH.cons rfl (fun K hK => ?_) AllReadyH.nil
          refine step_app_r4 (by rfl) (.const (.slice none 0 0)) (.tmp 109) 31 rfl _ _ _ rfl rfl hrun1 ?_
          refine hK.out _ _ trivial (fun hHeld2 => ?_)
          clear hK K hHeld
          have hHeld := hHeld2
          clear hHeld2
          try simp only [Act.put, List.getElem_toArray, List.getElem_cons_zero, List.getElem_cons_succ, List.setIfInBounds_toArray, List.set_cons_zero, List.set_cons_succ]
          refine wpAnyH_ready (rs := [8]) (by kernel_rfl) (by simp) ?_
          refine AllReadyH.cons rfl (fun K hK => ?_) AllReadyH.nil
          refine step_app_r4 (by rfl) (.tmp 110) (.tmp 114) 31 rfl _ _ _ rfl rfl hrun2 ?_
          refine hK.out _ _ trivial (fun hHeld2 => ?_)
          clear hK K hHeld
          have hHeld := hHeld2
          clear hHeld2
          try simp only [Act.put, List.getElem_toArray, List.getElem_cons_zero, List.getElem_cons_succ, List.setIfInBounds_toArray, List.set_cons_zero, List.set_cons_succ]
          refine wpAnyH_take (i := 9) (v := ?_) rfl (by kernel_rfl) (by kernel_rfl) (by kernel_rfl) (fun _ _ _ h => h) (Or.inl ⟨by rfl, ?_⟩) (by assumption) ?_
          rotate_left
          · intro w hSw
            (try dsimp only at hSw)
            go_simp
            try (with_reducible rfl)
          try simp only [Act.put, List.getElem_toArray, List.getElem_cons_zero, List.getElem_cons_succ, List.setIfInBounds_toArray, List.set_cons_zero, List.set_cons_succ]
          refine wpAnyH_done (by kernel_rfl) ?_ _
          clear hrun1 hrun2 hl2 hl3 hiw hiw2
          go_upto_if 121 with (fail)
          go_cut [6] (fun tv wx => ∃ (wz : World) (A : Option Addr) (m' c' : Nat), wz = wx ∧ tv = .slice A m' c' ∧ m' ≤ 8 ∧ Hid (THead2 W wz p (.slice A m' c') m'))
          case first =>
            by_cases h3 : x.tmod 3 = 0
            · obtain ⟨f0, f1, f2, f3⟩ := HFB8.out.bx
              simp only [] at f0 f1 f2 f3
              go_wp2_with fail
              refine (fladd_yes H8.out.fl g1 g2 g3 g4 HFR.out (by have := goneQ_len (show j < ps.length by rw [HLEN.out]; exact HJM.out.1); have := HLEN.out; have := HJM.out; omega)).mono ?_
              rintro e w9 ⟨rfl, v9, h9, s9⟩
              have hT9 := H8.out.turn h9 s9
              have hfb9 := HFB8.out.turn s9
              obtain ⟨A10, c10, w10, hr, h10⟩ := hT9.app (j + n) hT9.ow.len (by have := HJN.out; omega) ⟨g1, g2, g3, g4⟩
              obtain ⟨d0, d1, d2, d3⟩ := hfb9.bx
              simp only [] at d0 d1 d2 d3 hr
              have hun10 := (HUN.out.gone j (by rw [HLEN.out]; exact HJM.out.1)).app ⟨g1, g2, g3, g4⟩ HFR.out HON.out
              have H10 : Hid (THead2 W w10 p (.slice A10 (j + n + 1) c10) (j + n + 1)) := Lib.hid ⟨_, _, h10, hun10, h10.ow.len⟩
              clear h9 s9 hT9 hfb9 h10 hun10 f0 f1 f2 f3
              go_wp2_with (at_builtin; refine wpList_app_r rfl _ _ 31 31 rfl _ _ rfl rfl hr ?_)
              go_meet
              exact ⟨_, _, _, _, rfl, rfl, by have := HJN.out; omega, H10⟩
            · go_wp2_with fail
              go_meet
              exact ⟨_, _, _, _, rfl, rfl, by have := HJN.out; omega, Lib.hid ⟨_, _, H8.out, HUN.out.gone j (by rw [HLEN.out]; exact HJM.out.1), H8.out.ow.len⟩⟩
          case rest =>
          obtain ⟨wz, A3, m3, c3, rfl, rfl, hm3, hhd⟩ := hcut
          obtain ⟨v3, ps3, hft, hun, hlen⟩ := hhd.out
          have HALL := Lib.hid (flall_any hft.fl (by omega))
          rw [hlen] at HALL
          have HT3 := Lib.hid hft
          have HU3 := Lib.hid hun
          have HL3 := Lib.hid hlen
          clear hhd hft hun hlen H8 HFB8 y0' HFI HFR HON HUN HLEN HQ HJM HJN
          go_wp2_with fail
          refine HALL.out.mono ?_
          rintro e w11 ⟨A4, c4, rfl, ho4, b4⟩
          have h11 := HT3.out.later b4
          have HSM := Lib.hid (sameQ_any ho4 h11.ow (by omega))
          have H11 := Lib.hid h11
          clear h11 ho4 b4 HALL HT3
          go_wp2_with fail
          refine HSM.out.mono ?_
          rintro e w12 ⟨rfl, nd, rfl⟩
          have H12 := Lib.hid (H11.out.drewN nd)
          have HLN := Lib.hid (fllen_any H12.out.fl)
          rw [HL3.out] at HLN
          clear HSM H11
          go_wp2_with fail
          refine HLN.out.mono ?_
          rintro e w13 ⟨rfl, rfl⟩
          go_wp2
          go_roundw
          case rel => exact ⟨k + 1, A3, m3, c3, by have := HK.out; omega, by first | rfl | go_num, rfl, hm3, Lib.hid ⟨_, _, H12.out, HU3.out, HL3.out⟩⟩
          case measure => have := HK.out; simp [intOf]; omega
        · obtain ⟨v, ps, hft, hun, hlen⟩ := hhd.out
          have HTK := Lib.hid (fltake_no hft.fl 1 (fun j hj => (hun.one j hj).1) (by omega))
          have HBL := Lib.hid hft.bel
          clear hhd hft hun hlen
          have q : ¬ (k < l0) ∨ (k < l0 ∧ ¬ (k < 16)) ∨ (k < l0 ∧ k < 16 ∧ m = 0) := by omega
          clear hlt hm8
          have tail : True := trivial
          rcases q with q0 | ⟨q0, q1⟩ | ⟨q0, q1, q2⟩
          · have i0 : ¬ ((k : Int) < (l0 : Int)) := by omega
            go_wp2_with fail
            refine HTK.out.mono ?_
            rintro e w5 ⟨rfl, b5⟩
            have HB5 := Lib.hid (HBL.out.trans (b5.mono HBL.out.size))
            have HB6 := Lib.hid (HB5.out.alloc HB5.out.size (.cells #[.int .i64 0, .int .i64 0, .int .i64 0, .int .i64 0] tOutP))
            clear b5 HTK
            go_wp2_with fail
            refine (wakesF_any _).mono ?_
            rintro e w7 ⟨rfl, b7⟩
            have HB7 := Lib.hid (HB6.out.trans (b7.mono HB6.out.size))
            clear b7
            go_wp2
            go_ret
            exact ⟨rfl, HB7.out⟩
          · have i0 : (k : Int) < (l0 : Int) := by omega
            have i1 : ¬ ((k : Int) < 16) := by omega
            go_wp2_with fail
            refine HTK.out.mono ?_
            rintro e w5 ⟨rfl, b5⟩
            have HB5 := Lib.hid (HBL.out.trans (b5.mono HBL.out.size))
            have HB6 := Lib.hid (HB5.out.alloc HB5.out.size (.cells #[.int .i64 0, .int .i64 0, .int .i64 0, .int .i64 0] tOutP))
            clear b5 HTK
            go_wp2_with fail
            refine (wakesF_any _).mono ?_
            rintro e w7 ⟨rfl, b7⟩
            have HB7 := Lib.hid (HB6.out.trans (b7.mono HB6.out.size))
            clear b7
            go_wp2
            go_ret
            exact ⟨rfl, HB7.out⟩
          · have i0 : (k : Int) < (l0 : Int) := by omega
            have i1 : (k : Int) < 16 := by omega
            subst q2
            go_wp2_with fail
            refine HTK.out.mono ?_
            rintro e w5 ⟨rfl, b5⟩
            have HB5 := Lib.hid (HBL.out.trans (b5.mono HBL.out.size))
            have HB6 := Lib.hid (HB5.out.alloc HB5.out.size (.cells #[.int .i64 0, .int .i64 0, .int .i64 0, .int .i64 0] tOutP))
            clear b5 HTK
            go_wp2_with fail
            refine (wakesF_any _).mono ?_
            rintro e w7 ⟨rfl, b7⟩
            have HB7 := Lib.hid (HB6.out.trans (b7.mono HB6.out.size))
            clear b7
            go_wp2
            go_ret
            exact ⟨rfl, HB7.out⟩
end Go.Proofs.Ytdfgomnppepmnaa
