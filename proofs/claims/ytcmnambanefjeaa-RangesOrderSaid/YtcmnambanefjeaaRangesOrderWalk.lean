/-
  What RangesOrder answers: the walk.
-/
import Derived.Test.YtcmnambanefjeaaTwo
import Derived.Test.YtcmnambanefjeaaCountMath
import Derived.Deep.RegionHeld3
namespace Go.Proofs.Ytcmnambanefjeaa
open Go.RowKit
open Go.Sort (grow grow_grow grow_empty alloc_eq_grow)

set_option maxHeartbeats 2000000 in
set_option maxRecDepth 100000 in
theorem rangesOrder_walk (A : Option Addr) (n c : Nat) (X : Nat → ActT) (f0 t0 : Int) (w : World) (hA : ArgA w A n c X) :
    Calls Try.prog 3 #[.slice A n c, .int .i64 f0, .int .i64 t0] w fun e w' => e = .returned (.bool true) ∧ Below w.heap.size w w' := by
  have HARG := Lib.hid hA
  have hnc := hA.le
  have hreach := hA.reach
  have HN1 := Lib.hid (newset_any w w.heap.size (Nat.le_refl _))
  obtain ⟨B, hB⟩ : ∃ B, w.heap.size = B := ⟨_, rfl⟩
  clear hA
  go_enter Try.func3, Try.ntmps3
  go_wp2_with fail
  refine HN1.out.mono ?_
  rintro e w1 ⟨rfl, s1, b1, z1⟩
  have HN2 := Lib.hid (newset_any w1 w.heap.size b1.size)
  have HS1 := Lib.hid s1
  have HB1 := Lib.hid b1
  rw [hB] at z1 ⊢
  have HZ1 := Lib.hid z1
  clear s1 b1 z1
  go_wp2_with fail
  refine HN2.out.mono ?_
  rintro e w2 ⟨rfl, s2, b2, z2⟩
  have two : Two w w2 B (B + 1) (.slice none 0 0) (.slice none 0 0) [] [] := by
    have h1 := HS1.out.later b2
    rw [HZ1.out] at s2
    rw [hB] at h1
    exact ⟨by rw [hB]; exact h1, s2, by omega, .inl rfl, HB1.out.trans (b2.mono HB1.out.size)⟩
  rw [HZ1.out]
  have HT := Lib.hid two
  have HAR := Lib.hid (HARG.out.later (show Below w.heap.size w w2 from two.bel))
  have HBB := Lib.hid hB
  clear two s2 b2 z2 hB HS1 HZ1 HB1 HN1 HN2
  obtain ⟨K, hK⟩ : ∃ K : Nat, (K : Int) = min (n : Int) 12 := ⟨min n 12, by omega⟩
  have hmin : ∀ (ts : Array TypeId) (t : TypeId) (w : World), (Builtin.min_ ts t #[.int .i64 (n : Int), .int .i64 12]).run Try.prog w = .ok (.int .i64 (K : Int)) w := run_min2 _ _ _ hK
  have hKn : K ≤ n := by omega
  have hK12 : K ≤ 12 := by omega
  clear hK
  go_wp2_with fail
  go_loopg [10] K (fun kx s10 wr => ∃ (k : Nat) (va vb : Value) (xs ys : List (Int × Int)), s10 = .int .i64 k ∧ k ≤ K ∧ K - k ≤ kx ∧ Hid (Two w wr B (B + 1) va vb xs ys ∧ xs.length ≤ k ∧ ys.length ≤ 2 * k ∧
    (∀ z, ins xs z ↔ ∃ i, i < k ∧ wnd (X i) z) ∧ (∀ z, ins ys z ↔ ∃ i, i < k ∧ wnd (X (K - 1 - i)) z)))
  case atStart => exact ⟨0, _, _, [], [], rfl, Nat.zero_le _, by omega, HT.out, by simp, by simp, fun z => ⟨fun h => absurd h (ins_nil z), fun ⟨i, hi, _⟩ => by omega⟩, fun z => ⟨fun h => absurd h (ins_nil z), fun ⟨i, hi, _⟩ => by omega⟩⟩
  case round =>
    obtain ⟨k, va, vb, xs, ys, rfl, hkK, hgk, hI⟩ := hrel
    by_cases hlt : k < K
    · have har := HARG.out.later hI.out.1.bel
      rcases har.rd with h0 | ⟨b, off, rfl, hcell⟩
      · omega
      · obtain ⟨c1, c2, c3, c4⟩ := hcell k (by omega)
        obtain ⟨j, hj⟩ : ∃ j : Nat, K - 1 - k = j := ⟨_, rfl⟩
        obtain ⟨d1, d2, d3, d4⟩ := hcell j (by omega)
        obtain ⟨⟨x1, x2, x3, x4⟩, hx⟩ : ∃ x, X k = x := ⟨_, rfl⟩
        obtain ⟨⟨y1, y2, y3, y4⟩, hy⟩ : ∃ y, X j = y := ⟨_, rfl⟩
        rw [hx] at c1 c2 c3 c4
        rw [hy] at d1 d2 d3 d4
        simp only [] at c1 c2 c3 c4 d1 d2 d3 d4
        have HX := Lib.hid hx
        have HY := Lib.hid hy
        have HJ := Lib.hid hj
        have i1 : (k : Int) < (K : Int) := by omega
        have i2 : (0 : Int) ≤ (k : Int) := by omega
        have i3 : (k : Int) < (n : Int) := by omega
        have i4 : (j : Int) < (n : Int) := by omega
        have i5 : (0 : Int) ≤ (j : Int) := by omega
        have i7 : IntKind.i64.wrap ((K : Int) - 1) = (K : Int) - 1 := by rw [IntKind.wrap_i64]; omega
        have i8 : IntKind.i64.wrap ((K : Int) - 1 - (k : Int)) = (j : Int) := by rw [IntKind.wrap_i64]; omega
        clear hj
        clear hx hy hcell har
        go_wp2_with fail
        go_region_held3 (fun wi => Since wr wi ∧ wi.cell? ⟨b, off + k * 4, none⟩ = some (.int .i64 x1) ∧ wi.cell? ⟨b, off + k * 4 + 1, none⟩ = some (.int .i64 x2) ∧ wi.cell? ⟨b, off + k * 4 + 2, none⟩ = some (.bool x3) ∧ wi.cell? ⟨b, off + k * 4 + 3, none⟩ = some (.bool x4) ∧
            wi.cell? ⟨b, off + j * 4, none⟩ = some (.int .i64 y1) ∧ wi.cell? ⟨b, off + j * 4 + 1, none⟩ = some (.int .i64 y2) ∧ wi.cell? ⟨b, off + j * 4 + 2, none⟩ = some (.bool y3) ∧ wi.cell? ⟨b, off + j * 4 + 3, none⟩ = some (.bool y4))
          (first | assumption | (refine keepL c1 c2 c3 c4 d1 d2 d3 d4 ?_; repeat (first | exact Below.refl _ _ | refine Below.drew ?_ | refine Below.alloc ?_ (by simp <;> omega) _)))
          (fail)
        all_goals
          first
          | (
            obtain ⟨W, hW⟩ : ∃ W, W = ((wr.alloc (.cells #[.int .i64 x1, .int .i64 x2, .bool x3, .bool x4] 26)).alloc (.cells #[.int .i64 y1, .int .i64 y2, .bool y3, .bool y4] 26)).drew := ⟨_, rfl⟩
            have hb : Below wr.heap.size wr W := by rw [hW]; exact (((Below.refl _ _).alloc (Nat.le_refl _) _).alloc (by simp) _).drew
            have g0 : W.heap[wr.heap.size + 1]? = some (.cells #[.int .i64 y1, .int .i64 y2, .bool y3, .bool y4] 26 (0, 0)) := by
              have h9 := heap_alloc_new (wr.alloc (.cells #[.int .i64 x1, .int .i64 x2, .bool x3, .bool x4] 26)) (.cells #[.int .i64 y1, .int .i64 y2, .bool y3, .bool y4] 26)
              rw [World.size_alloc] at h9
              rw [hW]
              exact h9
            have e0 : W.heap[wr.heap.size]? = some (.cells #[.int .i64 x1, .int .i64 x2, .bool x3, .bool x4] 26 (0, 0)) := by rw [hW]; exact (heap_alloc_old (wr.alloc (.cells #[.int .i64 x1, .int .i64 x2, .bool x3, .bool x4] 26)) _ (by simp)).trans (heap_alloc_new wr _)
            rw [← hW]
            have HB := Lib.hid hb
            clear hW hb
            obtain ⟨bz, hbz⟩ : ∃ b, b = wr.heap.size + 1 := ⟨_, rfl⟩
            rw [← hbz] at g0 ⊢
            clear hbz
            obtain ⟨bx, hbx⟩ : ∃ b, b = wr.heap.size := ⟨_, rfl⟩
            rw [← hbx] at e0 ⊢
            clear hbx c1 c2 c3 c4 d1 d2 d3 d4)
          | (
            obtain ⟨W, hW⟩ : ∃ W, W = ((wr.alloc (.cells #[.int .i64 y1, .int .i64 y2, .bool y3, .bool y4] 26)).alloc (.cells #[.int .i64 x1, .int .i64 x2, .bool x3, .bool x4] 26)).drew := ⟨_, rfl⟩
            have hb : Below wr.heap.size wr W := by rw [hW]; exact (((Below.refl _ _).alloc (Nat.le_refl _) _).alloc (by simp) _).drew
            have e0 : W.heap[wr.heap.size + 1]? = some (.cells #[.int .i64 x1, .int .i64 x2, .bool x3, .bool x4] 26 (0, 0)) := by
              have h9 := heap_alloc_new (wr.alloc (.cells #[.int .i64 y1, .int .i64 y2, .bool y3, .bool y4] 26)) (.cells #[.int .i64 x1, .int .i64 x2, .bool x3, .bool x4] 26)
              rw [World.size_alloc] at h9
              rw [hW]
              exact h9
            have g0 : W.heap[wr.heap.size]? = some (.cells #[.int .i64 y1, .int .i64 y2, .bool y3, .bool y4] 26 (0, 0)) := by rw [hW]; exact (heap_alloc_old (wr.alloc (.cells #[.int .i64 y1, .int .i64 y2, .bool y3, .bool y4] 26)) _ (by simp)).trans (heap_alloc_new wr _)
            rw [← hW]
            have HB := Lib.hid hb
            clear hW hb
            obtain ⟨bx, hbx⟩ : ∃ b, b = wr.heap.size + 1 := ⟨_, rfl⟩
            rw [← hbx] at e0 ⊢
            clear hbx
            obtain ⟨bz, hbz⟩ : ∃ b, b = wr.heap.size := ⟨_, rfl⟩
            rw [← hbz] at g0 ⊢
            clear hbz c1 c2 c3 c4 d1 d2 d3 d4)
        all_goals
          have TW := Lib.hid (hI.out.1.later HB.out)
          obtain ⟨e1, _⟩ := box_cell e0
          obtain ⟨g1, _⟩ := box_cell g0
          have E0 := Lib.hid e0
          have G0 := Lib.hid g0
          clear e0 g0
          go_wp2_with fail
          go_quiet ((go_at_call 6; exact Calls.quiet_of_same (within_same _ _ _ (by omega) (by omega))))
          clear e1 g1
          obtain ⟨V, hV⟩ : ∃ V, V = W.drewN nq := ⟨_, rfl⟩
          have TV := Lib.hid (show Two w V B (B + 1) va vb xs ys by rw [hV]; exact TW.out.drewN nq)
          have e0 : V.heap[bx]? = some (.cells #[.int .i64 x1, .int .i64 x2, .bool x3, .bool x4] 26 (0, 0)) := by rw [hV]; exact E0.out
          have G1 := Lib.hid (show V.heap[bz]? = some (.cells #[.int .i64 y1, .int .i64 y2, .bool y3, .bool y4] 26 (0, 0)) by rw [hV]; exact G0.out)
          rw [← hV]
          clear hV TW
          obtain ⟨F1, hF1⟩ : ∃ F, x1 % 90 = F := ⟨_, rfl⟩
          obtain ⟨F2, hF2⟩ : ∃ F, y1 % 90 = F := ⟨_, rfl⟩
          obtain ⟨P1, hP1⟩ : ∃ F, x2 % 12 = F := ⟨_, rfl⟩
          obtain ⟨P2, hP2⟩ : ∃ F, y2 % 12 = F := ⟨_, rfl⟩
          rw [hF1, hF2]
          have w1x := Lib.hid (fun V => by have := within_same x2 12 V (by omega) (by omega); rw [hP1] at this; exact this)
          have w1y := Lib.hid (fun V => by have := within_same y2 12 V (by omega) (by omega); rw [hP2] at this; exact this)
          have hwx : IntKind.i64.wrap (F1 + P1) = F1 + P1 := by rw [IntKind.wrap_i64]; omega
          have hwy : IntKind.i64.wrap (F2 + P2) = F2 + P2 := by rw [IntKind.wrap_i64]; omega
          have HF := Lib.hid (show x1 % 90 = F1 ∧ y1 % 90 = F2 ∧ x2 % 12 = P1 ∧ y2 % 12 = P2 from ⟨hF1, hF2, hP1, hP2⟩)
          clear hF1 hF2 hP1 hP2
          obtain ⟨_, e2⟩ := box_cell e0
          clear e0
          go_wp2_with fail
          refine (w1x.out V).mono ?_
          rintro e V' ⟨rfl, rfl⟩
          go_wp2_with fail
          refine (TV.out.add F1 (F1 + P1) (by have := hI.out.2.1; omega)).mono ?_
          rintro e V1 ⟨rfl, va1, xs1, T1, I1, L1, R1⟩
          have g0 := R1 bz _ _ G1.out (by decide) (by decide)
          have HT1 := Lib.hid T1
          have HI1 := Lib.hid (And.intro I1 L1)
          obtain ⟨_, g2⟩ := box_cell g0
          have G2 := Lib.hid g0
          clear T1 I1 L1 R1 g0 e2
          go_wp2_with fail
          refine (w1y.out V1).mono ?_
          rintro e V' ⟨rfl, rfl⟩
          go_wp2_with fail
          refine (HT1.out.addB F2 (F2 + P2) (by have := hI.out.2.2.1; omega)).mono ?_
          rintro e V2 ⟨rfl, vb1, ys1, T2, I2, L2, R2⟩
          have g0 := R2 bz _ _ G2.out (by decide) (by decide)
          have HT2 := Lib.hid T2
          have HI2 := Lib.hid (And.intro I2 L2)
          clear g2
          obtain ⟨_, g2⟩ := box_cell g0
          clear T2 I2 L2 R2 g0
          go_wp2_with fail
          refine (w1y.out V2).mono ?_
          rintro e V' ⟨rfl, rfl⟩
          go_wp2_with fail
          refine (HT2.out.addB F2 (F2 + P2) (by have := hI.out.2.2.1; have := HI2.out.2; omega)).mono ?_
          rintro e V3 ⟨rfl, vb2, ys2, T3, I3, L3, R3⟩
          have HT3 := Lib.hid T3
          have HI3 := Lib.hid (And.intro I3 L3)
          clear T3 I3 L3 R3 g2
          go_wp2
          go_roundg (K - (k + 1))
          case measure => omega
          case rel =>
            obtain ⟨f1, f2, f3, f4⟩ := HF.out
            refine ⟨k + 1, va1, vb2, xs1, ys2, by go_num, by omega, by omega, HT3.out, by have := HI1.out.2; have := hI.out.2.1; omega, by have := HI3.out.2; have := HI2.out.2; have := hI.out.2.2.1; omega, fun z => ?_, fun z => ?_⟩
            · rw [HI1.out.1 z, hI.out.2.2.2.1 z]
              exact wnd_succ (fun i => X i) k z F1 P1 (by show (X k).f % 90 = F1; rw [HX.out]; exact f1) (by show (X k).t % 12 = P1; rw [HX.out]; exact f3)
            · rw [HI3.out.1 z, HI2.out.1 z, hI.out.2.2.2.2 z, or_assoc, or_self]
              exact wnd_succ (fun i => X (K - 1 - i)) k z F2 P2 (by show (X (K - 1 - k)).f % 90 = F2; rw [HJ.out, HY.out]; exact f2) (by show (X (K - 1 - k)).t % 12 = P2; rw [HJ.out, HY.out]; exact f4)
    · obtain rfl : k = K := by omega
      have heq : xs = ys := hI.out.1.sa.norm.ext hI.out.1.sb.norm fun z => by
        rw [hI.out.2.2.2.1 z, hI.out.2.2.2.2 z]
        constructor
        · rintro ⟨i, hi, h⟩
          exact ⟨k - 1 - i, by omega, by rw [show k - 1 - (k - 1 - i) = i by omega]; exact h⟩
        · rintro ⟨i, hi, h⟩
          exact ⟨k - 1 - i, by omega, h⟩
      subst heq
      have hl := hI.out.2.1
      have HL := Lib.hid (show xs.length ≤ 12 by omega)
      have T0 := Lib.hid hI.out.1
      clear hI hl hmin HT HARG HAR
      go_wp2_with fail
      refine (allset_any B va xs _ wr T0.out.sa (by have := HL.out; omega)).mono ?_
      rintro e V1 ⟨A1, c1, rfl, o1, b1⟩
      have T1 := Lib.hid (T0.out.later b1)
      have O1 := Lib.hid o1
      clear o1 b1 T0
      go_wp2_with fail
      refine (allset_any (B + 1) vb xs _ V1 T1.out.sb (by have := HL.out; omega)).mono ?_
      rintro e V2 ⟨A2, c2, rfl, o2, b2⟩
      have T2 := Lib.hid (T1.out.later b2)
      have O12 := Lib.hid (O1.out.later b2)
      have O2 := Lib.hid o2
      clear o2 b2 T1 O1
      go_wp2_with fail
      refine (sameP_any xs xs A1 A2 _ _ c1 c2 _ _ V2 O12.out O2.out).mono ?_
      rintro e V3 ⟨rfl, kd, rfl⟩
      rw [decide_eq_true (rfl : xs = xs)]
      obtain ⟨V3, hV3⟩ : ∃ V, V = V2.drewN kd := ⟨_, rfl⟩
      have T3 := Lib.hid (show Two w V3 B (B + 1) va vb xs xs by rw [hV3]; exact T2.out.drewN kd)
      rw [← hV3]
      clear hV3 T2 O12 O2
      obtain ⟨F, hF⟩ : ∃ F, f0 % 90 = F := ⟨_, rfl⟩
      obtain ⟨P, hP⟩ : ∃ P : Nat, t0 % 20 = (P : Nat) := ⟨(t0 % 20).toNat, by omega⟩
      have hF0 : 0 ≤ F := by omega
      have hF9 : F < 90 := by omega
      have hP2 : P < 20 := by omega
      have wf := Lib.hid (fun V => by have := within_same f0 90 V (by omega) (by omega); rw [hF] at this; exact this)
      have wt := Lib.hid (fun V => by have := within_same t0 20 V (by omega) (by omega); rw [hP] at this; exact this)
      have hw1 : IntKind.i64.wrap (F + (P : Nat)) = F + (P : Nat) := by rw [IntKind.wrap_i64]; omega
      clear hF hP
      go_wp2_with fail
      refine (wf.out V3).mono ?_
      rintro e V' ⟨rfl, rfl⟩
      go_wp2_with fail
      refine (wt.out V').mono ?_
      rintro e V3 ⟨rfl, rfl⟩
      go_wp2_with fail
      refine (count_any B va xs _ V3 T3.out.sa (by have := HL.out; omega)).mono ?_
      rintro e V4 ⟨rfl, b4⟩
      have T4 := Lib.hid (T3.out.later b4)
      have hcb := cnt_bd T3.out.sa.norm
      obtain ⟨C, hC⟩ : ∃ C, cntL xs = C := ⟨_, rfl⟩
      rw [hC] at hcb ⊢
      have HC := Lib.hid hC
      clear b4 T3 wf wt hC
      go_wp2_with fail
      go_loopg [16, 17] P (fun kx s16 s17 wr => ∃ m : Nat, s17 = .int .i64 (F + (m : Nat)) ∧ s16 = .int .i64 (win xs F m) ∧ m ≤ P ∧ P - m ≤ kx ∧ Hid (Two w wr B (B + 1) va vb xs xs))
      case atStart => exact ⟨0, by simp, rfl, Nat.zero_le _, by omega, T4.out⟩
      case round =>
        obtain ⟨m, rfl, rfl, hmP, hgm, hT⟩ := hrel
        by_cases hmlt : m < P
        · have i1 : F + (m : Int) < F + (P : Int) := by omega
          have hw2 : IntKind.i64.wrap (F + (m : Nat) + 1) = F + (m : Nat) + 1 := by rw [IntKind.wrap_i64]; omega
          have hwl := win_le xs F m
          by_cases hin : ins xs (F + (m : Nat))
          · have hw : win xs F (m + 1) = win xs F m + 1 := by unfold win; rw [sumI, ind_yes hin]
            have HW := Lib.hid hw
            have HH := Lib.hid (has_any B va xs _ (F + (m : Nat)) (F + (m : Nat) + 1) true wr hT.out.sa (by have := HL.out; omega) ⟨fun _ k h1 h2 => by rw [show k = F + (m : Nat) by omega]; exact hin, fun _ => rfl⟩)
            clear hw hin
            go_wp2_with fail
            refine HH.out.mono ?_
            rintro e V5 ⟨rfl, b5⟩
            have T5 := Lib.hid (hT.out.later b5)
            clear b5
            go_wp2
            go_roundg (P - (m + 1))
            case measure => omega
            case rel => exact ⟨m + 1, by go_num, by rw [HW.out], by omega, by omega, T5.out⟩
          · have hw : win xs F (m + 1) = win xs F m := by unfold win; rw [sumI, ind_no hin]; omega
            have HW := Lib.hid hw
            have HH := Lib.hid (has_any B va xs _ (F + (m : Nat)) (F + (m : Nat) + 1) false wr hT.out.sa (by have := HL.out; omega) ⟨fun h => (by cases h), fun h => absurd (h _ (Int.le_refl _) (by omega)) hin⟩)
            clear hw hin
            go_wp2_with fail
            refine HH.out.mono ?_
            rintro e V5 ⟨rfl, b5⟩
            have T5 := Lib.hid (hT.out.later b5)
            clear b5
            go_wp2
            go_roundg (P - (m + 1))
            case measure => omega
            case rel => exact ⟨m + 1, by go_num, by rw [HW.out], by omega, by omega, T5.out⟩
        · have hm : m = P := by omega
          subst hm
          have hwl := win_le xs F m
          obtain ⟨G, hG⟩ : ∃ G, F + (m : Int) = G := ⟨_, rfl⟩
          have hGF : F ≤ G := by omega
          have hG2 : G < F + 20 := by omega
          rw [hG]
          go_wp2_with fail
          refine (hT.out.cut F G (by have := HL.out; omega)).mono ?_
          rintro e V5 ⟨rfl, va5, xs5, T5, I5, L5, _⟩
          have hcnt : cntL xs5 = C - win xs F m := by rw [← HC.out]; exact cnt_cut hT.out.sa.norm T5.sa.norm hF0 (by omega) (by rw [hG]; exact I5)
          have hcb5 := cnt_bd T5.sa.norm
          rw [hcnt] at hcb5
          have HL5 := Lib.hid (show xs5.length ≤ 13 by have := HL.out; omega)
          have HI5 := Lib.hid I5
          have HT5 := Lib.hid T5
          have HCN := Lib.hid hcnt
          clear T5 I5 L5 hcnt
          go_wp2_with fail
          refine (count_any B va5 xs5 _ V5 HT5.out.sa (by have := HL5.out; omega)).mono ?_
          rintro e V6 ⟨rfl, b6⟩
          have T6' := Lib.hid (HT5.out.later b6)
          rw [HCN.out]
          clear b6
          obtain ⟨Wn, hWn⟩ : ∃ x, win xs F m = x := ⟨_, rfl⟩
          rw [hWn] at hcb5 hwl ⊢
          have hw3 : IntKind.i64.wrap (C - Wn) = C - Wn := by rw [IntKind.wrap_i64]; omega
          have hw4 : IntKind.i64.wrap (F + 1) = F + 1 := by rw [IntKind.wrap_i64]; omega
          clear hWn HCN hG
          by_cases hm0 : G = F
          · have hnlt : ¬ (F < G) := by omega
            clear hm0
            have T6 := T6'
            go_wp2_with fail
            refine (T6.out.addB F G (by have := HL.out; omega)).mono ?_
            rintro e V8 ⟨rfl, vb8, ys8, T8, I8, L8, _⟩
            have HT8 := Lib.hid T8
            have HI8 := Lib.hid (And.intro I8 L8)
            clear T8 I8 L8
            go_wp2_with fail
            refine (HT8.out.add F G (by have := HL5.out; omega)).mono ?_
            rintro e V9 ⟨rfl, va9, xs9, T9, I9, L9, _⟩
            have heq : xs9 = ys8 := T9.sa.norm.ext T9.sb.norm fun z => by
              rw [I9 z, HI5.out z, HI8.out.1 z]
              by_cases hz : F ≤ z ∧ z < G
              · constructor
                · intro _; right; omega
                · intro _; right; omega
              · constructor
                · rintro (h | h)
                  · exact .inl h.1
                  · exact .inr h
                · rintro (h | h)
                  · exact .inl ⟨h, hz⟩
                  · exact .inr h
            have HIN := Lib.hid (show ∀ z, F ≤ z → z < G → ins xs9 z from fun z h1 h2 => (I9 z).2 (.inr (by omega)))
            have HL9 := Lib.hid (show xs9.length ≤ 20 by have := HL5.out; omega)
            have HT9 := Lib.hid T9
            clear T9 I9 L9 HT8 HI8
            subst heq
            go_wp2_with fail
            refine (allset_any B va9 xs9 _ V9 HT9.out.sa (by have := HL9.out; omega)).mono ?_
            rintro e U1 ⟨A1, c1, rfl, o1, b1⟩
            have T1 := Lib.hid (HT9.out.later b1)
            have O1 := Lib.hid o1
            clear o1 b1
            go_wp2_with fail
            refine (allset_any (B + 1) vb8 xs9 _ U1 T1.out.sb (by have := HL9.out; omega)).mono ?_
            rintro e U2 ⟨A2, c2, rfl, o2, b2⟩
            have T2 := Lib.hid (T1.out.later b2)
            have O12 := Lib.hid (O1.out.later b2)
            have O2 := Lib.hid o2
            clear o2 b2 O1
            go_wp2_with fail
            refine (sameP_any xs9 xs9 A1 A2 _ _ c1 c2 _ _ U2 O12.out O2.out).mono ?_
            rintro e U3 ⟨rfl, kd, rfl⟩
            rw [decide_eq_true (rfl : xs9 = xs9)]
            obtain ⟨U3, hU3⟩ : ∃ V, V = U2.drewN kd := ⟨_, rfl⟩
            have T3 := Lib.hid (show Two w U3 B (B + 1) va9 vb8 xs9 xs9 by rw [hU3]; exact T2.out.drewN kd)
            rw [← hU3]
            clear hU3 T1 T2 O12 O2
            go_wp2_with fail
            refine (has_any B va9 xs9 _ F G true U3 T3.out.sa (by have := HL9.out; omega) ⟨fun _ => HIN.out, fun _ => rfl⟩).mono ?_
            rintro e U4 ⟨rfl, b4⟩
            have T4' := Lib.hid (T3.out.later b4)
            clear b4
            go_wp2_with fail
            refine (wakesR_any U4).mono ?_
            rintro e U5 ⟨rfl, b5⟩
            have T5' := Lib.hid (T4'.out.later b5)
            clear b5
            go_wp2
            go_ret
            exact ⟨rfl, T5'.out.bel⟩
          · have hlt2 : F < G := by omega
            clear hm0
            have HH := Lib.hid (has_any B va5 xs5 _ F (F + 1) false V6 T6'.out.sa (by have := HL5.out; omega) ⟨fun h => (by cases h), fun h => absurd ((HI5.out F).1 (h F (Int.le_refl _) (by omega))).2 (by omega)⟩)
            go_wp2_with fail
            refine HH.out.mono ?_
            rintro e V7 ⟨rfl, b7⟩
            have T6 := Lib.hid (T6'.out.later b7)
            clear b7 HH
            go_wp2_with fail
            refine (T6.out.addB F G (by have := HL.out; omega)).mono ?_
            rintro e V8 ⟨rfl, vb8, ys8, T8, I8, L8, _⟩
            have HT8 := Lib.hid T8
            have HI8 := Lib.hid (And.intro I8 L8)
            clear T8 I8 L8
            go_wp2_with fail
            refine (HT8.out.add F G (by have := HL5.out; omega)).mono ?_
            rintro e V9 ⟨rfl, va9, xs9, T9, I9, L9, _⟩
            have heq : xs9 = ys8 := T9.sa.norm.ext T9.sb.norm fun z => by
              rw [I9 z, HI5.out z, HI8.out.1 z]
              by_cases hz : F ≤ z ∧ z < G
              · constructor
                · intro _; right; omega
                · intro _; right; omega
              · constructor
                · rintro (h | h)
                  · exact .inl h.1
                  · exact .inr h
                · rintro (h | h)
                  · exact .inl ⟨h, hz⟩
                  · exact .inr h
            have HIN := Lib.hid (show ∀ z, F ≤ z → z < G → ins xs9 z from fun z h1 h2 => (I9 z).2 (.inr (by omega)))
            have HL9 := Lib.hid (show xs9.length ≤ 20 by have := HL5.out; omega)
            have HT9 := Lib.hid T9
            clear T9 I9 L9 HT8 HI8
            subst heq
            go_wp2_with fail
            refine (allset_any B va9 xs9 _ V9 HT9.out.sa (by have := HL9.out; omega)).mono ?_
            rintro e U1 ⟨A1, c1, rfl, o1, b1⟩
            have T1 := Lib.hid (HT9.out.later b1)
            have O1 := Lib.hid o1
            clear o1 b1
            go_wp2_with fail
            refine (allset_any (B + 1) vb8 xs9 _ U1 T1.out.sb (by have := HL9.out; omega)).mono ?_
            rintro e U2 ⟨A2, c2, rfl, o2, b2⟩
            have T2 := Lib.hid (T1.out.later b2)
            have O12 := Lib.hid (O1.out.later b2)
            have O2 := Lib.hid o2
            clear o2 b2 O1
            go_wp2_with fail
            refine (sameP_any xs9 xs9 A1 A2 _ _ c1 c2 _ _ U2 O12.out O2.out).mono ?_
            rintro e U3 ⟨rfl, kd, rfl⟩
            rw [decide_eq_true (rfl : xs9 = xs9)]
            obtain ⟨U3, hU3⟩ : ∃ V, V = U2.drewN kd := ⟨_, rfl⟩
            have T3 := Lib.hid (show Two w U3 B (B + 1) va9 vb8 xs9 xs9 by rw [hU3]; exact T2.out.drewN kd)
            rw [← hU3]
            clear hU3 T1 T2 O12 O2
            go_wp2_with fail
            refine (has_any B va9 xs9 _ F G true U3 T3.out.sa (by have := HL9.out; omega) ⟨fun _ => HIN.out, fun _ => rfl⟩).mono ?_
            rintro e U4 ⟨rfl, b4⟩
            have T4' := Lib.hid (T3.out.later b4)
            clear b4
            go_wp2_with fail
            refine (wakesR_any U4).mono ?_
            rintro e U5 ⟨rfl, b5⟩
            have T5' := Lib.hid (T4'.out.later b5)
            clear b5
            go_wp2
            go_ret
            exact ⟨rfl, T5'.out.bel⟩
end Go.Proofs.Ytcmnambanefjeaa
