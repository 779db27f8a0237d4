/-
  The walk of FlightPlays.
-/
import Derived.Test.YtdfgomnppepmnaaFlMid
import Derived.Test.YtdfgomnppepmnaaWithin
import Derived.Deep.LoopGhost
import Derived.Deep.CutBlock
import Derived.Deep.DeepCutAuto
namespace Go.Proofs.Ytdfgomnppepmnaa
open Go.RowKit

theorem quiet_eq4 {P : Program} {f : Nat} {args : Array Value} {w : World} {n : Nat} {v : Value} (h : Calls P f args (w.drewN n) fun e w' => e = .returned v ∧ w.drewN n = w') :
    Calls P f args (w.drewN n) fun e w'' => e = .returned v ∧ ∃ m, w'' = w.drewN m := Calls.quiet_of_same (h.mono fun _ _ ⟨h1, h2⟩ => ⟨h1, h2.symm⟩)

/-- At the loop's head: both are alike. -/
def FHead (W wr : World) (p r : Nat) (k : Nat) : Prop := ∃ (v u : Value) (ps : List Qd), FM W wr p v ps r u ps ∧ ps.length ≤ k

theorem stayQ_le (ps : List Qd) (d : Int) : (stayQ ps d).length ≤ ps.length := List.length_filter_le _ _

/-- One number of an argument. -/
theorem ArgI.cellAt {w w' : World} {A : Option Addr} {n c : Nat} {xs : List Int} (h : ArgI .i64 8 w A n c xs) (hb : Below w.heap.size w w') (k : Nat) (hk : k < n) : ∃ b off, A = some ⟨b, off, none⟩ ∧ w'.cell? ⟨b, off + k, none⟩ = some (.int .i64 (xs.getD k 0)) := by
  obtain ⟨b, off, hA, hc⟩ := (h.rd.later hb).some_ (by rw [h.len]; omega)
  exact ⟨b, off, hA, hc k (by rw [h.len]; exact hk)⟩

set_option maxRecDepth 100000 in
set_option maxHeartbeats 2000000 in
theorem flightPlays_walk (a0 : Option Addr) (l0 c0 : Nat) (x0 : List Int) (a1 : Option Addr) (l1 c1 : Nat) (x1 : List Int) (a2 : Option Addr) (l2 c2 : Nat) (x2 : List Int) (W : World) (h0 : ArgI .i64 8 W a0 l0 c0 x0) (h1 : ArgI .i64 8 W a1 l1 c1 x1) (h2 : ArgI .i64 8 W a2 l2 c2 x2) :
    Calls Try.prog 4 #[.slice a0 l0 c0, .slice a1 l1 c1, .slice a2 l2 c2] W fun e W' => e = .returned (.bool true) ∧ Below W.heap.size W W' := by
  have k0 := h0.le
  have k1 := h1.le
  have k2 := h2.le
  have r0 := h0.reach
  have r1 := h1.reach
  have r2 := h2.reach
  have HA0 := Lib.hid h0
  have HA1 := Lib.hid h1
  have HA2 := Lib.hid h2
  have HNW := Lib.hid (newfl_any W)
  obtain ⟨p, hp⟩ : ∃ p, W.heap.size = p := ⟨_, rfl⟩
  rw [hp] at HNW
  have HP := Lib.hid hp
  clear h0 h1 h2 hp
  go_enter Try.func4, Try.ntmps4
  go_wp2_with fail
  refine HNW.out.mono ?_
  rintro e w1 ⟨rfl, h1, b1, -⟩
  obtain ⟨w2, hw2⟩ : ∃ w2, w1.alloc (.cells #[.slice none 0 0] tFlR) = w2 := ⟨_, rfl⟩
  obtain ⟨r, hr⟩ : ∃ r, w1.heap.size = r := ⟨_, rfl⟩
  have hb2 : Below w1.heap.size w1 w2 := by rw [← hw2]; exact (Below.refl _ _).alloc (Nat.le_refl _) _
  have hd2 : FlA tFlR tOutR w2 p r (.slice none 0 0) [] := ⟨by rw [← hw2, ← hr]; exact World.rowIs_alloc w1 _ _ _ (fun i hi => by
    have : i < 1 := hi
    match i, this with
    | 0, _ => rfl), OwnQ.nil _ _ _, by have := h1.lt; omega⟩
  have hfm : FM W w2 p (.slice none 0 0) [] r (.slice none 0 0) [] := ⟨by rw [HP.out]; exact h1.later hb2, by rw [HP.out]; exact hd2, fun k hk hk2 => by
    rcases hk with rfl | hk
    · rcases hk2 with hk2 | hk2
      · have := h1.lt
        omega
      · simp [Value.ownBlock] at hk2
    · simp [Value.ownBlock] at hk, by rw [HP.out]; exact b1.trans (hb2.mono (by have := h1.lt; omega))⟩
  have H0 : Hid (FHead W w2 p r 0) := Lib.hid ⟨_, _, _, hfm, by simp⟩
  clear h1 b1 hb2 hd2 hfm HNW
  go_wp2_with fail
  go_loopw [9] (fun iv wr => ∃ (k : Nat), k ≤ 30 ∧ iv = .int .i64 k ∧ Hid (FHead W wr p r k)) (fun iv _ => 30 - (intOf iv).toNat)
  case atStart => exact ⟨0, by omega, rfl, H0⟩
  case round =>
    clear H0 hw2 hr
    obtain ⟨k, hk30, rfl, hhd⟩ := hrel
    by_cases hlt : k < l0 ∧ k < l1 ∧ k < l2 ∧ k < 30
    · obtain ⟨t0, t1, t2, t3⟩ := hlt
      obtain ⟨v, u, ps, hfm, hpl⟩ := hhd.out
      clear hhd
      obtain ⟨b0, o0, rfl, y0⟩ := HA0.out.cellAt hfm.bel k t0
      obtain ⟨b1, o1, rfl, y1⟩ := HA1.out.cellAt hfm.bel k t1
      obtain ⟨b2, o2, rfl, y2⟩ := HA2.out.cellAt hfm.bel k t2
      have i0 : (k : Int) < (l0 : Int) := by omega
      have i1 : (k : Int) < (l1 : Int) := by omega
      have i2 : (k : Int) < (l2 : Int) := by omega
      have i3 : (k : Int) < 30 := by omega
      have i4 : (0 : Int) ≤ (k : Int) := by omega
      obtain ⟨e0, he0⟩ : ∃ x, x0.getD k 0 = x := ⟨_, rfl⟩
      obtain ⟨e1, he1⟩ : ∃ x, x1.getD k 0 = x := ⟨_, rfl⟩
      obtain ⟨e2, he2⟩ : ∃ x, x2.getD k 0 = x := ⟨_, rfl⟩
      rw [he0] at y0
      rw [he1] at y1
      rw [he2] at y2
      have HFM := Lib.hid hfm
      have HPL := Lib.hid hpl
      have HK := Lib.hid t3
      clear he0 he1 he2 hfm hpl t0 t1 t2 t3 hk30
      go_wp2_with fail
      go_quiet ((go_at_call 7; exact quiet_eq4 (within_any _ _ _ (by omega) (by omega))))
      obtain ⟨wa, hwa⟩ : ∃ wa, wr.drewN nq = wa := ⟨_, rfl⟩
      have HFA := Lib.hid (show FM W wa p v ps r u ps by rw [← hwa]; exact HFM.out.drewN nq)
      have y0' : wa.cell? ⟨b0, o0 + k, none⟩ = some (.int .i64 e0) := by rw [← hwa]; exact y0
      have y1' : wa.cell? ⟨b1, o1 + k, none⟩ = some (.int .i64 e1) := by rw [← hwa]; exact y1
      rw [hwa]
      clear y0 y1 y2 HFM hwa
      have n0 : 0 ≤ e1 % 12 ∧ e1 % 12 < 12 := ⟨Int.emod_nonneg _ (by omega), Int.emod_lt_of_pos _ (by omega)⟩
      have n1 : 0 ≤ e2 % 30 ∧ e2 % 30 < 30 := ⟨Int.emod_nonneg _ (by omega), Int.emod_lt_of_pos _ (by omega)⟩
      obtain ⟨N, hN⟩ : ∃ N, e1 % 12 = N := ⟨_, rfl⟩
      obtain ⟨A, hA⟩ : ∃ A, e2 % 30 = A := ⟨_, rfl⟩
      rw [hN] at n0 ⊢
      rw [hA] at n1 ⊢
      have HN := Lib.hid n0
      have HAA := Lib.hid n1
      clear hN hA n0 n1
      go_wp2_with fail
      refine (within_any e0 9 _ (by omega) (by omega)).mono ?_
      rintro e w3 ⟨rfl, rfl⟩
      have m0 : 0 ≤ e0 % 9 := Int.emod_nonneg _ (by omega)
      have m1 : e0 % 9 < 9 := Int.emod_lt_of_pos _ (by omega)
      obtain ⟨M, hM⟩ : ∃ M, e0 % 9 = M := ⟨_, rfl⟩
      rw [hM] at m0 m1 ⊢
      clear hM y0'
      go_upto_block 2 with (fail)
      go_cut [] (fun wx => ∃ wz, wz = wx ∧ Hid (FHead W wz p r (k + 1)))
      case first =>
        have hM : (M = 0 ∨ M = 1 ∨ M = 2 ∨ M = 3 ∨ M = 4) ∨ (M = 5 ∨ M = 6) ∨ M = 7 ∨ M = 8 := by omega
        clear m0 m1
        rcases hM with hM | hM | hM | hM
        · obtain ⟨C, hC⟩ : ∃ C, A + N = C := ⟨_, rfl⟩
          have hcw : wrap64 (A + N) = C := wrap_q hC (by have := HN.out; have := HAA.out; omega) (by have := HN.out; have := HAA.out; omega)
          obtain ⟨z, hz⟩ : ∃ z, wa.heap.size = z := ⟨_, rfl⟩
          obtain ⟨wb, hwb⟩ : ∃ wb, wa.alloc (.cells #[.int .i64 N, .int .i64 A, .int .i64 C, .int .i64 A] tOutP) = wb := ⟨_, rfl⟩
          have HB := Lib.hid (show FM W wb p v ps r u ps by rw [← hwb]; exact HFA.out.alloc _)
          have hbx : Bx wb z ⟨N, A, C, A⟩ := by rw [← hwb, ← hz]; exact Bx.new _ _ _ _ _ _
          have HZF := Lib.hid (show ¬ Fft p v z from fun h => by have := HFA.out.lf z h; omega)
          have HZD := Lib.hid (show ¬ Fft r u z from fun h => by have := HFA.out.ld z h; omega)
          obtain ⟨q0, q1, q2, q3⟩ := hbx
          simp only [] at q0 q1 q2 q3
          have HBX : Hid (Bx wb z ⟨N, A, C, A⟩) := Lib.hid ⟨q0, q1, q2, q3⟩
          clear hC HFA
          rcases firstQ_or ps N with ⟨i9, hfi⟩ | hno
          · have HFI := Lib.hid hfi
            clear hfi
            rcases hM with rfl | rfl | rfl | rfl | rfl
            all_goals
              go_wp2_with fail
              obtain ⟨WY, hWY⟩ : ∃ w, wb.drew = w := ⟨_, rfl⟩
              have HY := Lib.hid (show FM W WY p v ps r u ps by rw [← hWY]; exact HB.out.drewN 1)
              have SX := Lib.hid (show Bx WY z ⟨N, A, C, A⟩ by rw [← hWY]; exact HBX.out)
              have SX0 := Lib.hid (show Bx wb.drew z ⟨N, A, C, A⟩ from HBX.out)
              refine wp_region_held_drew (S := fun wi => wi.cell? ⟨z, 0, none⟩ = some (.int .i64 N) ∧ wi.cell? ⟨z, 1, none⟩ = some (.int .i64 A) ∧ wi.cell? ⟨z, 2, none⟩ = some (.int .i64 C) ∧ wi.cell? ⟨z, 3, none⟩ = some (.int .i64 A)) (by kernel_rfl) SX0.out ?_
              intro hHeld
              rw [hWY] at hHeld ⊢
              clear hWY
              refine wpAnyH_take (i := 0) (v := ?_) rfl (by kernel_rfl) (by kernel_rfl) (by kernel_rfl) (fun _ _ _ h => h) (Or.inl ⟨by rfl, ?_⟩) (by assumption) ?_
              rotate_left
              · intro w hSw
                (try dsimp only at hSw)
                go_simp
                try (with_reducible rfl)
              try simp only [Act.put, List.getElem_toArray, List.getElem_cons_zero, List.setIfInBounds_toArray, List.set_cons_zero, List.set_cons_succ]
              refine wpAnyH_take (i := 1) (v := ?_) rfl (by kernel_rfl) (by kernel_rfl) (by kernel_rfl) (fun _ _ _ h => h) (Or.inl ⟨by rfl, ?_⟩) (by assumption) ?_
              rotate_left
              · intro w hSw
                (try dsimp only at hSw)
                go_simp
                try (with_reducible rfl)
              try simp only [Act.put, List.getElem_toArray, List.getElem_cons_zero, List.getElem_cons_succ, List.setIfInBounds_toArray, List.set_cons_zero, List.set_cons_succ]
              refine wpAnyH_take (i := 3) (v := ?_) rfl (by kernel_rfl) (by kernel_rfl) (by kernel_rfl) (fun _ _ _ h => h) (Or.inl ⟨by rfl, ?_⟩) (by assumption) ?_
              rotate_left
              · intro w hSw
                (try dsimp only at hSw)
                go_simp
                try (with_reducible rfl)
              try simp only [Act.put, List.getElem_toArray, List.getElem_cons_zero, List.getElem_cons_succ, List.setIfInBounds_toArray, List.set_cons_zero, List.set_cons_succ]
              refine wpAnyH_take (i := 4) (v := ?_) rfl (by kernel_rfl) (by kernel_rfl) (by kernel_rfl) (fun _ _ _ h => h) (Or.inl ⟨by rfl, ?_⟩) (by assumption) ?_
              rotate_left
              · intro w hSw
                (try dsimp only at hSw)
                go_simp
                try (with_reducible rfl)
              try simp only [Act.put, List.getElem_toArray, List.getElem_cons_zero, List.getElem_cons_succ, List.setIfInBounds_toArray, List.set_cons_zero, List.set_cons_succ]
              refine wpAnyH_ready (rs := [2]) (by kernel_rfl) (by simp) ?_
              refine AllReadyH.cons rfl (fun K hK => ?_) AllReadyH.nil
              go_simp
              refine (fladd_no HY.out.fl N A C A i9 HFI.out (by have := HPL.out; have := HK.out; omega)).mono ?_
              rintro e w1 ⟨rfl, b1⟩
              have H1 := Lib.hid (HY.out.later b1)
              have SX1 := Lib.hid (SX.out.later b1)
              clear b1 HY
              try go_wp2_with fail
              refine hK.out _ _ SX1.out (fun hHeld2 => ?_)
              clear hK K hHeld
              have hHeld := hHeld2
              clear hHeld2
              try simp only [Act.put, List.getElem_toArray, List.getElem_cons_zero, List.getElem_cons_succ, List.setIfInBounds_toArray, List.set_cons_zero, List.set_cons_succ]
              refine wpAnyH_ready (rs := [5]) (by kernel_rfl) (by simp) ?_
              refine AllReadyH.cons rfl (fun K hK => ?_) AllReadyH.nil
              go_simp
              refine (dfladd_no H1.out.dl N A C A i9 HFI.out (by have := HPL.out; have := HK.out; omega)).mono ?_
              rintro e w2 ⟨rfl, b2⟩
              have H2 := Lib.hid (H1.out.later b2)
              have SX2 := Lib.hid (SX1.out.later b2)
              clear b2 H1
              try go_wp2_with fail
              refine hK.out _ _ SX2.out (fun hHeld2 => ?_)
              clear hK K hHeld
              have hHeld := hHeld2
              clear hHeld2
              try simp only [Act.put, List.getElem_toArray, List.getElem_cons_zero, List.getElem_cons_succ, List.setIfInBounds_toArray, List.set_cons_zero, List.set_cons_succ]
              refine wpAnyH_take (i := 6) (v := ?_) rfl (by kernel_rfl) (by kernel_rfl) (by kernel_rfl) (fun _ _ _ h => h) (Or.inl ⟨by rfl, ?_⟩) (by assumption) ?_
              rotate_left
              · intro w hSw
                (try dsimp only at hSw)
                go_simp
                try (with_reducible rfl)
              try simp only [Act.put, List.getElem_toArray, List.getElem_cons_zero, List.getElem_cons_succ, List.setIfInBounds_toArray, List.set_cons_zero, List.set_cons_succ]
              refine wpAnyH_done (by kernel_rfl) ?_ _
              go_wp2_with fail
              go_meet
              exact ⟨_, rfl, Lib.hid ⟨_, _, _, H2.out, by have := HPL.out; omega⟩⟩
          · have HNO := Lib.hid hno
            clear hno
            rcases hM with rfl | rfl | rfl | rfl | rfl
            all_goals
              go_wp2_with fail
              obtain ⟨WY, hWY⟩ : ∃ w, wb.drew = w := ⟨_, rfl⟩
              have HY := Lib.hid (show FM W WY p v ps r u ps by rw [← hWY]; exact HB.out.drewN 1)
              have SX := Lib.hid (show Bx WY z ⟨N, A, C, A⟩ by rw [← hWY]; exact HBX.out)
              have SX0 := Lib.hid (show Bx wb.drew z ⟨N, A, C, A⟩ from HBX.out)
              refine wp_region_held_drew (S := fun wi => wi.cell? ⟨z, 0, none⟩ = some (.int .i64 N) ∧ wi.cell? ⟨z, 1, none⟩ = some (.int .i64 A) ∧ wi.cell? ⟨z, 2, none⟩ = some (.int .i64 C) ∧ wi.cell? ⟨z, 3, none⟩ = some (.int .i64 A)) (by kernel_rfl) SX0.out ?_
              intro hHeld
              rw [hWY] at hHeld ⊢
              clear hWY
              refine wpAnyH_take (i := 0) (v := ?_) rfl (by kernel_rfl) (by kernel_rfl) (by kernel_rfl) (fun _ _ _ h => h) (Or.inl ⟨by rfl, ?_⟩) (by assumption) ?_
              rotate_left
              · intro w hSw
                (try dsimp only at hSw)
                go_simp
                try (with_reducible rfl)
              try simp only [Act.put, List.getElem_toArray, List.getElem_cons_zero, List.setIfInBounds_toArray, List.set_cons_zero, List.set_cons_succ]
              refine wpAnyH_take (i := 1) (v := ?_) rfl (by kernel_rfl) (by kernel_rfl) (by kernel_rfl) (fun _ _ _ h => h) (Or.inl ⟨by rfl, ?_⟩) (by assumption) ?_
              rotate_left
              · intro w hSw
                (try dsimp only at hSw)
                go_simp
                try (with_reducible rfl)
              try simp only [Act.put, List.getElem_toArray, List.getElem_cons_zero, List.getElem_cons_succ, List.setIfInBounds_toArray, List.set_cons_zero, List.set_cons_succ]
              refine wpAnyH_take (i := 3) (v := ?_) rfl (by kernel_rfl) (by kernel_rfl) (by kernel_rfl) (fun _ _ _ h => h) (Or.inl ⟨by rfl, ?_⟩) (by assumption) ?_
              rotate_left
              · intro w hSw
                (try dsimp only at hSw)
                go_simp
                try (with_reducible rfl)
              try simp only [Act.put, List.getElem_toArray, List.getElem_cons_zero, List.getElem_cons_succ, List.setIfInBounds_toArray, List.set_cons_zero, List.set_cons_succ]
              refine wpAnyH_take (i := 4) (v := ?_) rfl (by kernel_rfl) (by kernel_rfl) (by kernel_rfl) (fun _ _ _ h => h) (Or.inl ⟨by rfl, ?_⟩) (by assumption) ?_
              rotate_left
              · intro w hSw
                (try dsimp only at hSw)
                go_simp
                try (with_reducible rfl)
              try simp only [Act.put, List.getElem_toArray, List.getElem_cons_zero, List.getElem_cons_succ, List.setIfInBounds_toArray, List.set_cons_zero, List.set_cons_succ]
              refine wpAnyH_ready (rs := [2]) (by kernel_rfl) (by simp) ?_
              refine AllReadyH.cons rfl (fun K hK => ?_) AllReadyH.nil
              go_simp
              refine (HY.out.add_yes N A C A HNO.out (by have := HPL.out; have := HK.out; omega)).mono ?_
              rintro e w1 ⟨rfl, v1, h1, s1⟩
              have H1 := Lib.hid h1
              have SX1 := Lib.hid (SX.out.keep s1 HZF.out)
              have HZD1 := HZD
              clear h1 s1 HY
              try go_wp2_with fail
              refine hK.out _ _ SX1.out (fun hHeld2 => ?_)
              clear hK K hHeld
              have hHeld := hHeld2
              clear hHeld2
              try simp only [Act.put, List.getElem_toArray, List.getElem_cons_zero, List.getElem_cons_succ, List.setIfInBounds_toArray, List.set_cons_zero, List.set_cons_succ]
              refine wpAnyH_ready (rs := [5]) (by kernel_rfl) (by simp) ?_
              refine AllReadyH.cons rfl (fun K hK => ?_) AllReadyH.nil
              go_simp
              refine (H1.out.dadd_yes N A C A HNO.out (by have := HPL.out; have := HK.out; omega)).mono ?_
              rintro e w2 ⟨rfl, u2, h2, s2⟩
              have H2 := Lib.hid h2
              have SX2 := Lib.hid (SX1.out.keep s2 HZD.out)
              clear h2 s2 H1
              try go_wp2_with fail
              refine hK.out _ _ SX2.out (fun hHeld2 => ?_)
              clear hK K hHeld
              have hHeld := hHeld2
              clear hHeld2
              try simp only [Act.put, List.getElem_toArray, List.getElem_cons_zero, List.getElem_cons_succ, List.setIfInBounds_toArray, List.set_cons_zero, List.set_cons_succ]
              refine wpAnyH_take (i := 6) (v := ?_) rfl (by kernel_rfl) (by kernel_rfl) (by kernel_rfl) (fun _ _ _ h => h) (Or.inl ⟨by rfl, ?_⟩) (by assumption) ?_
              rotate_left
              · intro w hSw
                (try dsimp only at hSw)
                go_simp
                try (with_reducible rfl)
              try simp only [Act.put, List.getElem_toArray, List.getElem_cons_zero, List.getElem_cons_succ, List.setIfInBounds_toArray, List.set_cons_zero, List.set_cons_succ]
              refine wpAnyH_done (by kernel_rfl) ?_ _
              go_wp2_with fail
              go_meet
              exact ⟨_, rfl, Lib.hid ⟨_, _, _, H2.out, by rw [List.length_append]; have := HPL.out; simp; omega⟩⟩
        · rcases firstQ_or ps N with ⟨i9, hfi⟩ | hno
          · obtain ⟨⟨g1, g2, g3, g4⟩, hq⟩ : ∃ q, ps.getD i9 qz = q := ⟨_, rfl⟩
            have hg := goneQ_len hfi.lt
            have HFI := Lib.hid hfi
            have HQ := Lib.hid hq
            have HG := Lib.hid hg
            clear hfi hq hg
            rcases hM with rfl | rfl
            all_goals
              go_wp2_with fail
              refine (HFA.out.take_yes N i9 HFI.out _ HQ.out (by have := HPL.out; have := HK.out; omega)).mono ?_
              rintro e w4 ⟨rfl, v4, h4, s4⟩
              have H4 := Lib.hid (h4.alloc (.cells #[.int .i64 g1, .int .i64 g2, .int .i64 g3, .int .i64 g4] tOutP))
              have HX4 := Lib.hid (Bx.new w4 tOutP g1 g2 g3 g4)
              have HZ4 := Lib.hid (show ¬ Fft r u w4.heap.size from fun h => by have := h4.ld _ h; omega)
              clear h4 s4
              go_wp2_with fail
              refine (H4.out.dtake_yes N i9 HFI.out _ HQ.out (by have := HPL.out; have := HK.out; omega)).mono ?_
              rintro e w5 ⟨rfl, u5, h5, s5⟩
              have H5 := Lib.hid (h5.alloc (.cells #[.int .i64 g1, .int .i64 g2, .int .i64 g3, .int .i64 g4] tOutR))
              obtain ⟨f0, f1, f2, f3⟩ := (HX4.out.keep s5 HZ4.out).later ((Below.refl _ _).alloc (Nat.le_refl _) (.cells #[.int .i64 g1, .int .i64 g2, .int .i64 g3, .int .i64 g4] tOutR))
              obtain ⟨d0, d1, d2, d3⟩ := Bx.new w5 tOutR g1 g2 g3 g4
              simp only [] at f0 f1 f2 f3 d0 d1 d2 d3
              clear h5 s5 H4 HX4 HZ4
              go_wp2_with fail
              go_meet
              exact ⟨_, rfl, Lib.hid ⟨_, _, _, H5.out, by have := HPL.out; have := HG.out; omega⟩⟩
          · have HNO := Lib.hid hno
            clear hno
            rcases hM with rfl | rfl
            all_goals
              go_wp2_with fail
              refine (fltake_no HFA.out.fl N HNO.out (by have := HPL.out; have := HK.out; omega)).mono ?_
              rintro e w4 ⟨rfl, b4⟩
              have H4 := Lib.hid ((HFA.out.later b4).alloc (.cells #[.int .i64 0, .int .i64 0, .int .i64 0, .int .i64 0] tOutP))
              have HX4 := Lib.hid (Bx.new w4 tOutP 0 0 0 0)
              clear b4
              go_wp2_with fail
              refine (dfltake_no H4.out.dl N HNO.out (by have := HPL.out; have := HK.out; omega)).mono ?_
              rintro e w5 ⟨rfl, b5⟩
              have H5 := Lib.hid ((H4.out.later b5).alloc (.cells #[.int .i64 0, .int .i64 0, .int .i64 0, .int .i64 0] tOutR))
              obtain ⟨f0, f1, f2, f3⟩ := (HX4.out.later b5).later ((Below.refl _ _).alloc (Nat.le_refl _) (.cells #[.int .i64 0, .int .i64 0, .int .i64 0, .int .i64 0] tOutR))
              obtain ⟨d0, d1, d2, d3⟩ := Bx.new w5 tOutR 0 0 0 0
              simp only [] at f0 f1 f2 f3 d0 d1 d2 d3
              clear b5 H4 HX4
              go_wp2_with fail
              go_meet
              exact ⟨_, rfl, Lib.hid ⟨_, _, _, H5.out, by have := HPL.out; omega⟩⟩
        · subst hM
          obtain ⟨d, hd⟩ : ∃ d, d = A - N := ⟨_, rfl⟩
          have HD := Lib.hid hd
          clear hd
          go_wp2_with fail
          refine (HFA.out.late A N d (by have := HAA.out; omega) (by have := HN.out; omega) HD.out (by have := HPL.out; have := HK.out; omega)).mono ?_
          rintro e w4 ⟨A4, m4, c4, rfl, ho4, v4, h4, s4⟩
          have H4 := Lib.hid h4
          have HO4 := Lib.hid ho4
          have HOD := Lib.hid (show ∀ g, (Value.slice A4 m4 c4).ownBlock = some g → ¬ Fft r u g from fun g hg hf => by
            have := (ho4.lt g hg).1
            have := HFA.out.ld g hf
            omega)
          clear h4 ho4 s4
          go_wp2_with fail
          refine (H4.out.dlate A N d (by have := HAA.out; omega) (by have := HN.out; omega) HD.out (by have := HPL.out; have := HK.out; omega)).mono ?_
          rintro e w5 ⟨A5, m5, c5, rfl, ho5, u5, h5, s5⟩
          have H5 := Lib.hid h5
          have ho4 := HO4.out.keep s5 HOD.out
          obtain rfl : m5 = m4 := by rw [← ho5.len, ← ho4.len]
          have HSM := Lib.hid (lsameQ_any ho4 ho5 (by rw [← ho5.len]; have := lateQ_len ps d ps.length; rw [List.take_length] at this; have := HPL.out; have := HK.out; omega))
          clear h5 ho4 ho5 s5 H4 HO4 HOD
          go_wp2_with fail
          refine HSM.out.mono ?_
          rintro e w6 ⟨rfl, nd, rfl⟩
          have H6 := Lib.hid (H5.out.drewN nd)
          clear HSM H5
          go_wp2_with fail
          go_meet
          exact ⟨_, rfl, Lib.hid ⟨_, _, _, H6.out, by have := HPL.out; have := stayQ_le ps d; omega⟩⟩
        · subst hM
          by_cases h5 : e1.tmod 5 = 4
          · obtain ⟨n, hn⟩ : ∃ n, ps.length = n := ⟨_, rfl⟩
            have HNN := Lib.hid hn
            obtain ⟨Au, cu, hu⟩ := HFA.out.dl.own.form
            have HU := Lib.hid hu
            clear hn hu
            go_wp2_with fail
            refine (HFA.out.drop (by have := HPL.out; have := HK.out; omega)).mono ?_
            rintro e w4 ⟨A4, c4, rfl, ho4, h4, s4⟩
            rw [HNN.out] at ho4 ⊢
            have H4 := Lib.hid h4
            have HO4 := Lib.hid ho4
            have HOD := Lib.hid (show ∀ g, (Value.slice A4 n c4).ownBlock = some g → ¬ Fft r u g from fun g hg hf => by
              have := (ho4.lt g hg).1
              have := HFA.out.ld g hf
              omega)
            clear h4 ho4 s4
            go_wp2_with fail
            refine H4.out.ddrop.mono ?_
            rintro e w5 ⟨rfl, ho5, h5', s5⟩
            have H5 := Lib.hid h5'
            have ho4 := HO4.out.keep s5 HOD.out
            rw [HU.out, HNN.out] at ho5
            rw [HU.out, HNN.out]
            have HSM := Lib.hid (lsameQ_any ho4 ho5 (by have := HNN.out; have := HPL.out; have := HK.out; omega))
            clear h5' ho4 ho5 s5 H4 HO4 HOD
            go_wp2_with fail
            refine HSM.out.mono ?_
            rintro e w6 ⟨rfl, nd, rfl⟩
            have H6 := Lib.hid (H5.out.drewN nd)
            clear HSM H5
            go_wp2_with fail
            go_meet
            exact ⟨_, rfl, Lib.hid ⟨_, _, _, H6.out, by simp⟩⟩
          · go_wp2_with fail
            go_meet
            exact ⟨_, rfl, Lib.hid ⟨_, _, _, HFA.out, by have := HPL.out; omega⟩⟩
      case rest =>
      clear HFA HPL HN HAA y1'
      obtain ⟨wx, rfl, hhd⟩ := hcut
      obtain ⟨v, u, ps, hfm, hpl⟩ := hhd.out
      clear hhd
      obtain ⟨n, hn⟩ : ∃ n, ps.length = n := ⟨_, rfl⟩
      have HNN := Lib.hid hn
      obtain ⟨Au, cu, hu⟩ := hfm.dl.own.form
      rw [hn] at hu hpl
      have HU := Lib.hid hu
      have HNL := Lib.hid hpl
      have HN30 := HK
      have HH := Lib.hid hfm
      clear hn hu hpl hfm
      go_wp2_with fail
      obtain ⟨WX, hWX⟩ : ∃ W, wx.drew = W := ⟨_, rfl⟩
      have HX := Lib.hid (show FM W WX p v ps r u ps by rw [← hWX]; exact HH.out.drewN 1)
      have hs0 : wx.drew.cell? ⟨r, 0, none⟩ = some (.slice Au n cu) := by rw [hWX, ← HU.out]; exact HX.out.dl.c0
      have S0 := Lib.hid hs0
      have HALL := Lib.hid (flall_any HX.out.fl (by have := HNL.out; have := HK.out; have := HNN.out; omega))
      rw [HNN.out] at HALL
      clear hs0 HH
      refine wp_region_held_drew (S := fun wi => wi.cell? ⟨r, 0, none⟩ = some (.slice Au n cu)) (by kernel_rfl) S0.out ?_
      intro hHeld
      rw [hWX] at hHeld ⊢
      clear hWX
      refine wpAnyH_take (i := 0) (v := ?_) rfl (by kernel_rfl) (by kernel_rfl) (by kernel_rfl) (fun _ _ _ h => h) (Or.inl ⟨by rfl, ?_⟩) (by assumption) ?_
      rotate_left
      · intro w hSw
        (try dsimp only at hSw)
        go_simp
        try (with_reducible rfl)
      try simp only [Act.put, List.getElem_toArray, List.getElem_cons_zero, List.setIfInBounds_toArray, List.set_cons_zero, List.set_cons_succ]
      refine wpAnyH_take (i := 2) (v := ?_) rfl (by kernel_rfl) (by kernel_rfl) (by kernel_rfl) (fun _ _ _ h => h) (Or.inl ⟨by rfl, ?_⟩) (by assumption) ?_
      rotate_left
      · intro w hSw
        (try dsimp only at hSw)
        go_simp
        try (with_reducible rfl)
      try simp only [Act.put, List.getElem_toArray, List.getElem_cons_zero, List.getElem_cons_succ, List.setIfInBounds_toArray, List.set_cons_zero, List.set_cons_succ]
      refine wpAnyH_take (i := 3) (v := ?_) rfl (by kernel_rfl) (by kernel_rfl) (by kernel_rfl) (fun _ _ _ h => h) (Or.inl ⟨by rfl, ?_⟩) (by assumption) ?_
      rotate_left
      · intro w hSw
        (try dsimp only at hSw)
        go_simp
        try (with_reducible rfl)
      try simp only [Act.put, List.getElem_toArray, List.getElem_cons_zero, List.getElem_cons_succ, List.setIfInBounds_toArray, List.set_cons_zero, List.set_cons_succ]
      refine wpAnyH_take (i := 4) (v := ?_) rfl (by kernel_rfl) (by kernel_rfl) (by kernel_rfl) (fun _ _ _ h => h) (Or.inl ⟨by rfl, ?_⟩) (by assumption) ?_
      rotate_left
      · intro w hSw
        (try dsimp only at hSw)
        go_simp
        try (with_reducible rfl)
      try simp only [Act.put, List.getElem_toArray, List.getElem_cons_zero, List.getElem_cons_succ, List.setIfInBounds_toArray, List.set_cons_zero, List.set_cons_succ]
      refine wpAnyH_take (i := 5) (v := ?_) rfl (by kernel_rfl) (by kernel_rfl) (by kernel_rfl) (fun _ _ _ h => h) (Or.inl ⟨by rfl, ?_⟩) (by assumption) ?_
      rotate_left
      · intro w hSw
        (try dsimp only at hSw)
        go_simp
        try (with_reducible rfl)
      try simp only [Act.put, List.getElem_toArray, List.getElem_cons_zero, List.getElem_cons_succ, List.setIfInBounds_toArray, List.set_cons_zero, List.set_cons_succ]
      refine wpAnyH_ready (rs := [1]) (by kernel_rfl) (by simp) ?_
      refine AllReadyH.cons rfl (fun K hK => ?_) AllReadyH.nil
      go_simp
      refine HALL.out.mono ?_
      rintro e w1 ⟨A1, c1, rfl, ho, hb⟩
      have H1 := Lib.hid (HX.out.later hb)
      have hou := H1.out.dl.own
      rw [HU.out] at hou
      have hs1 := H1.out.dl.c0
      rw [HU.out] at hs1
      have S1 := Lib.hid hs1
      have HSM := Lib.hid (lsameQ_any ho hou (by have := HNL.out; have := HN30.out; omega))
      have HLN := Lib.hid (fun k => fllen_any (H1.out.drewN k).fl)
      rw [HNN.out] at HLN
      clear ho hb hou hs1 HALL HX
      try go_wp2_with fail
      refine hK.out _ _ S1.out (fun hHeld2 => ?_)
      clear hK K hHeld
      have hHeld := hHeld2
      clear hHeld2
      try simp only [Act.put, List.getElem_toArray, List.getElem_cons_zero, List.getElem_cons_succ, List.setIfInBounds_toArray, List.set_cons_zero, List.set_cons_succ]
      refine wpAnyH_ready (rs := [6]) (by kernel_rfl) (by simp) ?_
      refine AllReadyH.cons rfl (fun K hK => ?_) AllReadyH.nil
      go_simp
      refine HSM.out.mono ?_
      rintro e w2 ⟨rfl, nd, rfl⟩
      have H2 := Lib.hid (H1.out.drewN nd)
      have HLN2 := Lib.hid (HLN.out nd)
      have S2 : Hid ((w1.drewN nd).cell? ⟨r, 0, none⟩ = some (.slice Au n cu)) := S1
      clear HSM HLN H1
      try go_wp2_with fail
      refine hK.out _ _ S2.out (fun hHeld2 => ?_)
      clear hK K hHeld
      have hHeld := hHeld2
      clear hHeld2
      try simp only [Act.put, List.getElem_toArray, List.getElem_cons_zero, List.getElem_cons_succ, List.setIfInBounds_toArray, List.set_cons_zero, List.set_cons_succ]
      refine wpAnyH_take (i := 7) (v := ?_) rfl (by kernel_rfl) (by kernel_rfl) (by kernel_rfl) (fun _ _ _ h => h) (Or.inl ⟨by rfl, ?_⟩) (by assumption) ?_
      rotate_left
      · intro w hSw
        (try dsimp only at hSw)
        go_simp
        try (with_reducible rfl)
      try simp only [Act.put, List.getElem_toArray, List.getElem_cons_zero, List.getElem_cons_succ, List.setIfInBounds_toArray, List.set_cons_zero, List.set_cons_succ]
      refine wpAnyH_take (i := 8) (v := ?_) rfl (by kernel_rfl) (by kernel_rfl) (by kernel_rfl) (fun _ _ _ h => h) (Or.inl ⟨by rfl, ?_⟩) (by assumption) ?_
      rotate_left
      · intro w hSw
        (try dsimp only at hSw)
        go_simp
        try (with_reducible rfl)
      try simp only [Act.put, List.getElem_toArray, List.getElem_cons_zero, List.getElem_cons_succ, List.setIfInBounds_toArray, List.set_cons_zero, List.set_cons_succ]
      refine wpAnyH_take (i := 9) (v := ?_) rfl (by kernel_rfl) (by kernel_rfl) (by kernel_rfl) (fun _ _ _ h => h) (Or.inl ⟨by rfl, ?_⟩) (by assumption) ?_
      rotate_left
      · intro w hSw
        (try dsimp only at hSw)
        go_simp
        try (with_reducible rfl)
      try simp only [Act.put, List.getElem_toArray, List.getElem_cons_zero, List.getElem_cons_succ, List.setIfInBounds_toArray, List.set_cons_zero, List.set_cons_succ]
      refine wpAnyH_take (i := 11) (v := ?_) rfl (by kernel_rfl) (by kernel_rfl) (by kernel_rfl) (fun _ _ _ h => h) (Or.inl ⟨by rfl, ?_⟩) (by assumption) ?_
      rotate_left
      · intro w hSw
        (try dsimp only at hSw)
        go_simp
        try (with_reducible rfl)
      try simp only [Act.put, List.getElem_toArray, List.getElem_cons_zero, List.getElem_cons_succ, List.setIfInBounds_toArray, List.set_cons_zero, List.set_cons_succ]
      refine wpAnyH_take (i := 12) (v := ?_) rfl (by kernel_rfl) (by kernel_rfl) (by kernel_rfl) (fun _ _ _ h => h) (Or.inl ⟨by rfl, ?_⟩) (by assumption) ?_
      rotate_left
      · intro w hSw
        (try dsimp only at hSw)
        go_simp
        try (with_reducible rfl)
      try simp only [Act.put, List.getElem_toArray, List.getElem_cons_zero, List.getElem_cons_succ, List.setIfInBounds_toArray, List.set_cons_zero, List.set_cons_succ]
      refine wpAnyH_take (i := 13) (v := ?_) rfl (by kernel_rfl) (by kernel_rfl) (by kernel_rfl) (fun _ _ _ h => h) (Or.inl ⟨by rfl, ?_⟩) (by assumption) ?_
      rotate_left
      · intro w hSw
        (try dsimp only at hSw)
        go_simp
        try (with_reducible rfl)
      try simp only [Act.put, List.getElem_toArray, List.getElem_cons_zero, List.getElem_cons_succ, List.setIfInBounds_toArray, List.set_cons_zero, List.set_cons_succ]
      refine wpAnyH_take (i := 14) (v := ?_) rfl (by kernel_rfl) (by kernel_rfl) (by kernel_rfl) (fun _ _ _ h => h) (Or.inl ⟨by rfl, ?_⟩) (by assumption) ?_
      rotate_left
      · intro w hSw
        (try dsimp only at hSw)
        go_simp
        try (with_reducible rfl)
      try simp only [Act.put, List.getElem_toArray, List.getElem_cons_zero, List.getElem_cons_succ, List.setIfInBounds_toArray, List.set_cons_zero, List.set_cons_succ]
      refine wpAnyH_take (i := 15) (v := ?_) rfl (by kernel_rfl) (by kernel_rfl) (by kernel_rfl) (fun _ _ _ h => h) (Or.inl ⟨by rfl, ?_⟩) (by assumption) ?_
      rotate_left
      · intro w hSw
        (try dsimp only at hSw)
        go_simp
        try (with_reducible rfl)
      try simp only [Act.put, List.getElem_toArray, List.getElem_cons_zero, List.getElem_cons_succ, List.setIfInBounds_toArray, List.set_cons_zero, List.set_cons_succ]
      refine wpAnyH_ready (rs := [10]) (by kernel_rfl) (by simp) ?_
      refine AllReadyH.cons rfl (fun K hK => ?_) AllReadyH.nil
      go_simp
      refine HLN2.out.mono ?_
      rintro e w3 ⟨rfl, rfl⟩
      try go_wp2_with fail
      refine hK.out _ _ S2.out (fun hHeld2 => ?_)
      clear hK K hHeld
      have hHeld := hHeld2
      clear hHeld2
      try simp only [Act.put, List.getElem_toArray, List.getElem_cons_zero, List.getElem_cons_succ, List.setIfInBounds_toArray, List.set_cons_zero, List.set_cons_succ]
      refine wpAnyH_take (i := 16) (v := ?_) rfl (by kernel_rfl) (by kernel_rfl) (by kernel_rfl) (fun _ _ _ h => h) (Or.inl ⟨by rfl, ?_⟩) (by assumption) ?_
      rotate_left
      · intro w hSw
        (try dsimp only at hSw)
        go_simp
        try (with_reducible rfl)
      try simp only [Act.put, List.getElem_toArray, List.getElem_cons_zero, List.getElem_cons_succ, List.setIfInBounds_toArray, List.set_cons_zero, List.set_cons_succ]
      refine wpAnyH_take (i := 17) (v := ?_) rfl (by kernel_rfl) (by kernel_rfl) (by kernel_rfl) (fun _ _ _ h => h) (Or.inl ⟨by rfl, ?_⟩) (by assumption) ?_
      rotate_left
      · intro w hSw
        (try dsimp only at hSw)
        go_simp
        try (with_reducible rfl)
      try simp only [Act.put, List.getElem_toArray, List.getElem_cons_zero, List.getElem_cons_succ, List.setIfInBounds_toArray, List.set_cons_zero, List.set_cons_succ]
      refine wpAnyH_done (by kernel_rfl) ?_ _
      go_wp2
      go_roundw
      case rel => exact ⟨k + 1, by have := HK.out; omega, by first | rfl | go_num, Lib.hid ⟨_, _, _, H2.out, by rw [HNN.out]; exact HNL.out⟩⟩
      case measure => have := HK.out; simp [intOf]; omega
    · obtain ⟨v, u, ps, hfm, hpl⟩ := hhd.out
      have HBL := Lib.hid hfm.bel
      clear hhd hfm hpl
      have q : ¬ (k < l0) ∨ (k < l0 ∧ ¬ (k < l1)) ∨ (k < l0 ∧ k < l1 ∧ ¬ (k < l2)) ∨ (k < l0 ∧ k < l1 ∧ k < l2 ∧ ¬ (k < 30)) := by omega
      clear hlt
      rcases q with q0 | ⟨q0, q1⟩ | ⟨q0, q1, q2⟩ | ⟨q0, q1, q2, q3⟩
      · have i0 : ¬ ((k : Int) < (l0 : Int)) := by omega
        go_wp2_with fail
        refine (wakesF_any _).mono ?_
        rintro e w9 ⟨rfl, hb⟩
        have HB9 := Lib.hid (HBL.out.trans (hb.mono HBL.out.size))
        clear hb
        go_wp2
        go_ret
        exact ⟨rfl, HB9.out⟩
      · have i0 : (k : Int) < (l0 : Int) := by omega
        have i1 : ¬ ((k : Int) < (l1 : Int)) := by omega
        go_wp2_with fail
        refine (wakesF_any _).mono ?_
        rintro e w9 ⟨rfl, hb⟩
        have HB9 := Lib.hid (HBL.out.trans (hb.mono HBL.out.size))
        clear hb
        go_wp2
        go_ret
        exact ⟨rfl, HB9.out⟩
      · have i0 : (k : Int) < (l0 : Int) := by omega
        have i1 : (k : Int) < (l1 : Int) := by omega
        have i2 : ¬ ((k : Int) < (l2 : Int)) := by omega
        go_wp2_with fail
        refine (wakesF_any _).mono ?_
        rintro e w9 ⟨rfl, hb⟩
        have HB9 := Lib.hid (HBL.out.trans (hb.mono HBL.out.size))
        clear hb
        go_wp2
        go_ret
        exact ⟨rfl, HB9.out⟩
      · have i0 : (k : Int) < (l0 : Int) := by omega
        have i1 : (k : Int) < (l1 : Int) := by omega
        have i2 : (k : Int) < (l2 : Int) := by omega
        have i3 : ¬ ((k : Int) < 30) := by omega
        go_wp2_with fail
        refine (wakesF_any _).mono ?_
        rintro e w9 ⟨rfl, hb⟩
        have HB9 := Lib.hid (HBL.out.trans (hb.mono HBL.out.size))
        clear hb
        go_wp2
        go_ret
        exact ⟨rfl, HB9.out⟩
end Go.Proofs.Ytdfgomnppepmnaa
