/-
  The walk of SchedTurns.
-/
import Derived.Test.YtffofgockddpiaaSchedTri
import Derived.Deep.DeepCutAuto
import Derived.Deep.CutBlock
import Derived.Deep.OwnRows
import Derived.Deep.RegionHeld3
namespace Go.Proofs.Ytffofgockddpiaa
open Go.RowKit

/-- By turns over n paths that can all be used: the i-th Pick. -/
theorem round_all {ms : List Int} {n i : Nat} {l : Int} (hn : ms.length = n) (h1 : 1 ≤ n ∧ n ≤ 3) (hu : ∀ j : Nat, j < n → 0 ≤ ms.getD j 0) (hl : (l = -1 ∧ i = 0) ∨ (0 ≤ l ∧ l < (n : Int) ∧ ((i % n : Nat) : Int) = if l + 1 = (n : Int) then 0 else l + 1)) : RoundP ms l (i % n) := by
  have hi : i % n < n := Nat.mod_lt _ (by omega)
  refine ⟨by omega, hu _ hi, ?_⟩
  rcases hl with ⟨rfl, rfl⟩ | ⟨l0, l1, l2⟩
  · left
    rw [Nat.zero_mod]
    exact ⟨by omega, fun j hj h => by omega⟩
  · by_cases e : l + 1 = (n : Int)
    · rw [if_pos e] at l2
      exact .inr ⟨fun j hj h => by omega, fun j hj => by omega⟩
    · rw [if_neg e] at l2
      exact .inl ⟨by omega, fun j hj h => by omega⟩
theorem turn_next {n i : Nat} (h1 : 1 ≤ n ∧ n ≤ 3) : (0 : Int) ≤ ((i % n : Nat) : Int) ∧ ((i % n : Nat) : Int) < (n : Int) ∧ (((i + 1) % n : Nat) : Int) = if ((i % n : Nat) : Int) + 1 = (n : Int) then 0 else ((i % n : Nat) : Int) + 1 := by
  have : n = 1 ∨ n = 2 ∨ n = 3 := by omega
  rcases this with rfl | rfl | rfl <;> refine ⟨by omega, by omega, ?_⟩ <;> split <;> omega
/-- How often the path j was picked, of i Picks. -/
def cntT (n i j : Nat) : Nat := (i + n - 1 - j) / n
theorem cntT_step {n i j : Nat} (h1 : 1 ≤ n ∧ n ≤ 3) (hj : j < n) : cntT n (i + 1) j = if j = i % n then cntT n i j + 1 else cntT n i j := by
  unfold cntT
  have : n = 1 ∨ n = 2 ∨ n = 3 := by omega
  rcases this with rfl | rfl | rfl <;> split <;> omega
theorem cntT_end {n r j : Nat} (h1 : 1 ≤ n ∧ n ≤ 3) (hj : j < n) : cntT n (r * n) j = r := by
  unfold cntT
  have : n = 1 ∨ n = 2 ∨ n = 3 := by omega
  rcases this with rfl | rfl | rfl <;> omega
theorem cntT_le {n i j : Nat} (h1 : 1 ≤ n ∧ n ≤ 3) (hi : i ≤ 100) : cntT n i j ≤ 200 := by
  unfold cntT
  have : n = 1 ∨ n = 2 ∨ n = 3 := by omega
  rcases this with rfl | rfl | rfl <;> omega

/-- Behind r turns. -/
def TurnR (W w : World) (b1 b2 b3 gc n : Nat) (MA : Option Addr) (Mc : Nat) (ms : List Int) (r : Nat) : Prop := ∃ (l : Int) (cs : List Int), ((l = -1 ∧ r = 0) ∨ (0 ≤ l ∧ l < (n : Int) ∧ ((r % n : Nat) : Int) = if l + 1 = (n : Int) then 0 else l + 1)) ∧ cs.length = n ∧ (∀ j : Nat, j < n → cs.getD j 0 = (cntT n r j : Nat)) ∧ Own .i64 3 w W.heap.size (.slice (some ⟨gc, 0, none⟩) n n) cs ∧ Own .i64 3 w W.heap.size (.slice MA n Mc) ms ∧ (Value.slice MA n Mc).ownBlock ≠ some gc ∧ TT W w b1 b2 b3 l
theorem none_12 : NoneU [-1, -2] := fun i hi => by
  have : i = 0 ∨ i = 1 := by simp at hi; omega
  rcases this with rfl | rfl <;> decide
theorem below_drT {B : Nat} {w0 w : World} (h : Below B w0 w) (k : Nat) : Below B w0 (w.drewN k) := ⟨h.os, h.tape, h.output, h.size, h.block⟩

set_option maxRecDepth 100000 in
set_option maxHeartbeats 8000000 in
theorem schedTurns_walk (a0 a1 : Int) (a2 : Option Addr) (len2 cap2 : Nat) (z2 : List Int) (W : World) (h2 : ArgI .i64 8 W a2 len2 cap2 z2) :
    Calls Try.prog 5 #[.int .i64 a0, .int .i64 a1, .slice a2 len2 cap2] W fun e W' => e = .returned (.bool true) ∧ Below W.heap.size W W' := by
  have hre2 := h2.reach
  have hle2 := h2.le
  have HZ2 := Lib.hid (show ∀ (w : World), Below W.heap.size W w → ∀ i, i < len2 → ∃ g o x, a2 = some ⟨g, o, none⟩ ∧ w.cell? ⟨g, o + i, none⟩ = some (.int .i64 x) from fun w hw i hi => by
    obtain ⟨g, o, rfl, hc⟩ := (h2.rd.later hw).some_ (by rw [h2.len]; omega)
    exact ⟨g, o, _, rfl, hc i (by rw [h2.len]; exact hi)⟩)
  have q0 := Int.emod_nonneg a0 (show (3 : Int) ≠ 0 by omega)
  have q1 := Int.emod_lt_of_pos a0 (show (0 : Int) < 3 by omega)
  have HW0 := Lib.hid (fun w => within_any a0 3 w (by omega) (by omega))
  obtain ⟨y0, hy0⟩ : ∃ z : Int, a0 % 3 = z := ⟨_, rfl⟩
  rw [hy0] at HW0 q0 q1
  obtain ⟨n, hn⟩ : ∃ n : Nat, 1 + y0 = (n : Int) := ⟨(1 + y0).toNat, by omega⟩
  have HWn := Lib.hid (show wrap64 (1 + y0) = (n : Int) from wrap_atS hn (by omega) (by omega))
  have r0 := Int.emod_nonneg a1 (show (5 : Int) ≠ 0 by omega)
  have r1 := Int.emod_lt_of_pos a1 (show (0 : Int) < 5 by omega)
  have HW1 := Lib.hid (fun w => within_any a1 5 w (by omega) (by omega))
  obtain ⟨y1, hy1⟩ : ∃ z : Int, a1 % 5 = z := ⟨_, rfl⟩
  rw [hy1] at HW1 r0 r1
  obtain ⟨R, hR⟩ : ∃ R : Nat, 1 + y1 = (R : Int) := ⟨(1 + y1).toNat, by omega⟩
  have HWR := Lib.hid (show wrap64 (1 + y1) = (R : Int) from wrap_atS hR (by omega) (by omega))
  obtain ⟨K, hK⟩ : ∃ K : Nat, R * n = K := ⟨_, rfl⟩
  have hKb : K ≤ 15 := by
    rw [← hK]
    have h1 : R ≤ 5 := by omega
    have h2 : n ≤ 3 := by omega
    exact Nat.mul_le_mul h1 h2
  have HWK := Lib.hid (show wrap64 ((R : Int) * (n : Int)) = (K : Int) from wrap_atS (by rw [← hK]; exact (Int.natCast_mul R n).symm) (by omega) (by omega))
  have HNUM := Lib.hid (show 1 ≤ n ∧ n ≤ 3 ∧ 1 ≤ R ∧ R ≤ 5 ∧ K ≤ 15 by omega)
  have HKK := Lib.hid hK
  have hmk : ∀ w, (Instr.makeSlice 22 (.int .i64 (n : Int)) (.int .i64 (n : Int))).run Try.prog w = .ok (.slice (some ⟨w.heap.size, 0, none⟩) n n) (w.alloc (.cells (cel .i64 (List.replicate n 0)).toArray 3)) := fun w => by
    have := run_make_row' (P := Try.prog) 22 3 (.int .i64 0) 8 Try.underlying22 info_intS rfl .i64 .i64 n (by omega) (by omega) w
    rw [this, show cel .i64 (List.replicate n 0) = List.replicate n (Value.int .i64 0) by simp [cel], ← toList_madeCells_one]
  have HN := Lib.hid (fun k w => newsc_any k w)
  clear hre2 hle2 h2 q0 q1 hy0 hn r0 r1 hy1 hR hK hKb
  go_enter Try.func5, Try.ntmps5
  go_wp2_with fail
  refine (HW0.out _).mono ?_
  rintro e w9 ⟨rfl, rfl⟩
  clear HW0
  go_wp2_with fail
  refine (HW1.out _).mono ?_
  rintro e w9 ⟨rfl, rfl⟩
  clear HW1
  go_wp2_with fail
  rw [HWn.out, HWR.out]
  refine (HN.out 2 W).mono ?_
  rintro e w1 ⟨rfl, h1, hb1⟩
  have H1 := Lib.hid (And.intro h1 hb1)
  clear h1 hb1
  go_wp2_with fail
  refine (HN.out 1 w1).mono ?_
  rintro e w2 ⟨rfl, h2, hb2⟩
  have H2 := Lib.hid (And.intro h2 hb2)
  clear h2 hb2
  go_wp2_with fail
  refine (HN.out 3 w2).mono ?_
  rintro e w3 ⟨rfl, h3, hb3⟩
  have HT := Lib.hid (TT.start H1.out.1 H1.out.2 H2.out.1 H2.out.2 h3 hb3)
  obtain ⟨b1, hb1⟩ : ∃ b, W.heap.size = b := ⟨_, rfl⟩
  obtain ⟨b2, hb2⟩ : ∃ b, w1.heap.size = b := ⟨_, rfl⟩
  obtain ⟨b3, hb3'⟩ : ∃ b, w2.heap.size = b := ⟨_, rfl⟩
  have HT9 : Hid (TT W w3 b1 b2 b3 (-1)) := Lib.hid (by rw [← hb1, ← hb2, ← hb3']; exact HT.out)
  rw [hb1, hb2, hb3']
  clear h3 hb3 HT H1 H2 HN hb1 hb2 hb3'
  -- the means
  have HM0 : Hid (∃ ms : List Int, ms.length = 0 ∧ (∀ j : Nat, j < 0 → 0 ≤ ms.getD j 0) ∧ Own .i64 3 w3 W.heap.size (.slice none 0 0) ms ∧ TT W w3 b1 b2 b3 (-1)) := Lib.hid ⟨[], rfl, fun j hj => by omega, Own.nil _ _ _ _, HT9.out⟩
  clear HT9
  go_wp2_with fail
  go_loopw [11, 10] (fun iv mv wr => ∃ (i : Nat) (MA : Option Addr) (Mc : Nat), i ≤ n ∧ iv = .int .i64 i ∧ mv = .slice MA i Mc ∧ Hid (∃ ms : List Int, ms.length = i ∧ (∀ j : Nat, j < i → 0 ≤ ms.getD j 0) ∧ Own .i64 3 wr W.heap.size (.slice MA i Mc) ms ∧ TT W wr b1 b2 b3 (-1))) (fun iv _ _ => n - (intOf iv).toNat)
  case atStart => exact ⟨0, none, 0, by omega, rfl, rfl, HM0⟩
  case round =>
    clear HM0
    obtain ⟨i, MA, Mc, hi, rfl, rfl, hmid⟩ := hrel
    by_cases hin : i < n
    · have i1 : (i : Int) < (n : Int) := by omega
      have i2 : (0 : Int) ≤ (i : Int) := by omega
      have HI := Lib.hid (And.intro hin (show i ≤ 3 by have := HNUM.out; omega))
      have HIW := Lib.hid (show wrap64 ((i : Int) + 1) = ((i + 1 : Nat) : Int) from wrap_atS (by omega) (by omega) (by have := HI.out; omega))
      clear hi hin
      go_upto_if 47 with (fail)
      clear i1
      go_cut [12] (fun kv wx => ∃ y : Int, kv = .int .i64 y ∧ 0 ≤ y ∧ wr = wx)
      case first =>
        by_cases hil : i < len2
        · obtain ⟨ms, -, -, -, htt⟩ := hmid.out
          obtain ⟨g, o, x, rfl, y0⟩ := HZ2.out wr htt.bel i hil
          have j1 : (i : Int) < (len2 : Int) := by omega
          have hy := Int.emod_nonneg x (show (20 : Int) ≠ 0 by omega)
          have HWX := Lib.hid (fun w => within_any x 20 w (by omega) (by omega))
          have HY := Lib.hid hy
          clear htt hil hy
          go_wp2_with fail
          refine (HWX.out _).mono ?_
          rintro e w9 ⟨rfl, rfl⟩
          go_wp2
          go_meet
          exact ⟨_, rfl, HY.out, rfl⟩
        · have j1 : ¬ ((i : Int) < (len2 : Int)) := by omega
          go_wp2
          go_meet
          exact ⟨_, rfl, by omega, rfl⟩
      case rest =>
      obtain ⟨y, rfl, hy, rfl⟩ := hcut
      obtain ⟨ms, hml, hmu, hmo, htt⟩ := hmid.out
      obtain ⟨A2, c2, w4, hrun, ho2, hg2, -⟩ := run_append_f (P := Try.prog) (wr.alloc (.cells #[.int .i64 y] 3)) .i64 22 22 3 (.int .i64 0) 8 Try.underlying22 info_intS rfl W.heap.size (.slice MA i Mc) ms (hmo.alloc _) (some ⟨wr.heap.size, 0, none⟩) 1 1 [y] rfl (Rd.newK .i64 wr [y] 3 (0, 0)) (by have := HI.out; rw [hml]; unfold maxLen; omega) (by have := HI.out; rw [hml]; omega) (by have := htt.bel.size; simp; omega)
      rw [hml] at hrun ho2
      have HNX : Hid (∃ ms : List Int, ms.length = i + 1 ∧ (∀ j : Nat, j < i + 1 → 0 ≤ ms.getD j 0) ∧ Own .i64 3 w4 W.heap.size (.slice A2 (i + 1) c2) ms ∧ TT W w4 b1 b2 b3 (-1)) := Lib.hid (by
        refine ⟨ms ++ [y], by rw [List.length_append, hml]; rfl, fun j hj => ?_, ho2, (htt.later ((Below.refl _ _).alloc (Nat.le_refl _) _)).row (hmo.alloc _) hg2⟩
        simp only [List.getD_eq_getElem?_getD]
        by_cases e : j < i
        · rw [List.getElem?_append_left (by omega)]
          have := hmu j e
          simp only [List.getD_eq_getElem?_getD] at this
          exact this
        · have : j = i := by omega
          subst this
          rw [List.getElem?_append_right (by omega), hml, Nat.sub_self]
          exact hy)
      clear hmid hml hmu hmo htt ho2 hg2 hy
      go_wp2_with (at_builtin; refine Lib.wpList_append_run _ rfl _ _ _ _ rfl _ _ rfl rfl _ _ hrun ?_)
      clear hrun
      go_roundw
      case rel => exact ⟨i + 1, A2, c2, by have := HI.out; omega, by first | rfl | (rw [HIW.out]) | go_num, by first | rfl | trivial, HNX⟩
      case measure => (try rw [HIW.out]); have := HI.out; simp [intOf]; omega
    · have : i = n := by omega
      subst this
      have j1 : ¬ ((i : Int) < (i : Int)) := by omega
      obtain ⟨ms, hml, hmu, hmo, htt⟩ := hmid.out
      have HML := Lib.hid hml
      have HMU := Lib.hid hmu
      -- the counts
      have hcn := Own.newK .i64 wr (List.replicate i 0) 3 (by rw [List.length_replicate]; have := HNUM.out; unfold maxLen; omega)
      rw [List.length_replicate] at hcn
      obtain ⟨gc, hgc⟩ : ∃ g, wr.heap.size = g := ⟨_, rfl⟩
      have HC0 : Hid (TurnR W (wr.alloc (.cells (cel .i64 (List.replicate i 0)).toArray 3)) b1 b2 b3 gc i MA Mc ms 0) := Lib.hid (by
        refine ⟨-1, List.replicate i 0, .inl ⟨rfl, rfl⟩, List.length_replicate, fun j hj => ?_, by rw [← hgc]; exact hcn.less htt.bel.size, hmo.alloc _, fun e => ?_, htt.later ((Below.refl _ _).alloc (Nat.le_refl _) _)⟩
        · have : cntT i 0 j = 0 := by
            unfold cntT
            have := HNUM.out
            have : i = 1 ∨ i = 2 ∨ i = 3 := by omega
            rcases this with rfl | rfl | rfl <;> omega
          rw [this]
          simp only [List.getD_eq_getElem?_getD, List.getElem?_replicate, if_pos hj]
          rfl
        · have := (hmo.lt gc e).2
          omega)
      clear hmid hml hmu hmo htt hcn hi hin
      go_wp2_with fail
      clear hgc
      have hwk := HWK.out
      go_loopw [14] (fun rv wv => ∃ r : Nat, r ≤ K ∧ rv = .int .i64 r ∧ Hid (TurnR W wv b1 b2 b3 gc i MA Mc ms r)) (fun rv _ => K - (intOf rv).toNat)
      case atStart => exact ⟨0, by omega, rfl, HC0⟩
      case round =>
        clear HC0
        obtain ⟨r, hr, rfl, hmid⟩ := hrel
        obtain ⟨l, cs, hl, hcl, hcs, hco, hmo, hne, htt⟩ := hmid.out
        have HCO := Lib.hid hco
        have HMO := Lib.hid hmo
        have HNE := Lib.hid hne
        have HCL := Lib.hid hcl
        have HCS := Lib.hid hcs
        have HNN : Hid (¬ NoneU ms) := Lib.hid fun h => by
          have h1 := h 0 (by rw [HML.out]; have := HNUM.out; omega)
          have h2 := HMU.out 0 (by have := HNUM.out; omega)
          omega
        by_cases hrK : r < K
        · obtain ⟨bb, hbb⟩ : ∃ b, r % i = b := ⟨_, rfl⟩
          have hRP := round_all (i := r) HML.out (by have := HNUM.out; omega) HMU.out hl
          have htn := turn_next (n := i) (i := r) (by have := HNUM.out; omega)
          rw [hbb] at hRP htn
          have HTN := Lib.hid htn
          have HPK := Lib.hid (htt.pick1 (c := Mc) HML.out hmo.rd (by have := HNUM.out; omega) (L := [(bb : Int)]) (l0 := (bb : Int)) (N := 1) (.inr ⟨HNN.out, .inr (.inl ⟨rfl, bb, hRP, rfl, rfl⟩)⟩) rfl)
          have HTT := Lib.hid htt
          have HR := Lib.hid (And.intro hrK (show r ≤ 15 by have := HNUM.out; omega))
          have j1 : (r : Int) < (K : Int) := by omega
          have HRW := Lib.hid (show wrap64 ((r : Int) + 1) = ((r + 1 : Nat) : Int) from wrap_atS (by omega) (by omega) (by have := HR.out; omega))
          have HRM := Lib.hid (show ((r : Nat) : Int).tmod (i : Int) = (bb : Int) by rw [Int.tmod_eq_emod_of_nonneg (by omega), ← hbb]; exact (Int.natCast_emod r i).symm)
          have HST := Lib.hid (show ∀ j, j < i → cntT i (r + 1) j = if j = bb then cntT i r j + 1 else cntT i r j from fun j hj => by rw [← hbb]; exact cntT_step (by have := HNUM.out; omega) hj)
          clear hl hcl hcs hco hmo hne htt hmid hr hrK hbb hRP htn
          go_wp2_with fail
          clear hwk j1
          refine HPK.out.mono ?_
          rintro e w5 ⟨A5, c5, rfl, ho5, ht5, hsc⟩
          have HC5 := Lib.hid (HTT.out.own1 hsc HCO.out)
          have HM5 := Lib.hid (HTT.out.own1 hsc HMO.out)
          have HT5 := Lib.hid ht5
          obtain ⟨g5, rfl, -, -, -, hcell, -⟩ := ho5.block (by omega)
          have y5 : w5.cell? ⟨g5, 0, none⟩ = some (.int .i64 (bb : Int)) := hcell 0 (by omega)
          clear ho5 ht5 hsc hcell HPK HCO HMO HTT
          have hrem := HRM.out
          have n0 : ¬ (i = 0) := by have := HNUM.out; omega
          go_wp2_with fail
          go_quiet (fail)
          clear hrem n0
          obtain ⟨wq, hwq⟩ : ∃ wq, w5.drewN nq = wq := ⟨_, rfl⟩
          have HCQ : Hid (Own .i64 3 wq W.heap.size (.slice (some ⟨gc, 0, none⟩) i i) cs) := Lib.hid (by rw [← hwq]; exact HC5.out.drewN nq)
          have HMQ : Hid (Own .i64 3 wq W.heap.size (.slice MA i Mc) ms) := Lib.hid (by rw [← hwq]; exact HM5.out.drewN nq)
          have HTQ : Hid (TT W wq b1 b2 b3 (bb : Int)) := Lib.hid (by rw [← hwq]; exact HT5.out.later (below_drS w5 nq))
          have yq : wq.cell? ⟨g5, 0, none⟩ = some (.int .i64 (bb : Int)) := by rw [← hwq]; exact y5
          rw [hwq]
          clear hwq HC5 HM5 HT5 y5
          obtain ⟨g9, hg9, -, -, -, hcc, hff⟩ := HCQ.out.block (by have := HNUM.out; omega)
          obtain ⟨rfl⟩ : gc = g9 := by injection hg9 with hg9; injection hg9
          have hbi : bb < i := by have := HTN.out; omega
          have z1 := hcc bb hbi
          have z2 := hff bb
          obtain ⟨cv, hcv⟩ : ∃ cv, cs.getD bb 0 = cv := ⟨_, rfl⟩
          rw [hcv] at z1
          have hcv2 := HCS.out bb hbi
          have hle := cntT_le (n := i) (i := r) (j := bb) (by have := HNUM.out; omega) (by have := HR.out; omega)
          rw [hcv] at hcv2
          have HCW := Lib.hid (show wrap64 (cv + 1) = cv + 1 from wrap_atS rfl (by omega) (by omega))
          have HNX : Hid (TurnR W (wq.setCell ⟨gc, bb, none⟩ (.int .i64 (cv + 1))) b1 b2 b3 gc i MA Mc ms (r + 1)) := Lib.hid (by
            refine ⟨(bb : Int), cs.set bb (cv + 1), .inr HTN.out, by rw [List.length_set]; exact HCL.out, fun j hj => ?_, HCQ.out.stored HCL.out bb (cv + 1), HMQ.out.kept (setCell_one _ _ _ _) (.inr HNE.out), HNE.out, HTQ.out.row HCQ.out (setCell_one wq gc bb _)⟩
            rw [HST.out j hj]
            by_cases e : j = bb
            · subst e
              rw [if_pos rfl]
              simp only [List.getD_eq_getElem?_getD]
              rw [List.getElem?_set_self (by rw [HCL.out]; exact hj)]
              simp only [Option.getD_some]
              omega
            · rw [if_neg e, ← HCS.out j hj]
              simp only [List.getD_eq_getElem?_getD, List.getElem?_set_ne (Ne.symm e)])
          have b0 : (0 : Int) ≤ (bb : Int) := by omega
          have b9 : (bb : Int) < (i : Int) := by omega
          have hcw := HCW.out
          clear hg9 hcc hff hbi hcv hcv2 hle
          go_wp2
          clear hcw
          go_roundw
          case rel => exact ⟨r + 1, by have := HR.out; omega, by first | rfl | (rw [HRW.out]) | go_num, by first | exact HNX | (rw [HCW.out]; exact HNX)⟩
          case measure => (try rw [HRW.out]); have := HR.out; simp [intOf]; omega
        · have hrK2 : r = K := by omega
          subst hrK2
          have j2 : ¬ ((r : Int) < (r : Int)) := by omega
          have HEND := Lib.hid (show ∀ j, j < i → cs.getD j 0 = (R : Int) from fun j hj => by
            rw [HCS.out j hj, ← HKK.out, cntT_end (by have := HNUM.out; omega) hj])
          have HTT := Lib.hid htt
          clear hl hcl hcs hco hmo hne htt hmid hr hrK
          obtain ⟨g9, hg9, -, -, -, hcc, -⟩ := HCO.out.block (by have := HNUM.out; omega)
          obtain ⟨rfl⟩ : gc = g9 := by injection hg9 with hg9; injection hg9
          have HCC := Lib.hid (show ∀ j, j < i → wr.cell? ⟨gc, j, none⟩ = some (.int .i64 (R : Int)) from fun j hj => by rw [hcc j hj, HEND.out j hj])
          clear hg9 hcc
          go_wp2_with fail
          clear hwk
          go_loopw [91] (fun jv wx => ∃ j : Nat, j ≤ i ∧ jv = .int .i64 j ∧ wr = wx) (fun jv _ => i - (intOf jv).toNat)
          case atStart => exact ⟨0, by omega, rfl, rfl⟩
          case round =>
            obtain ⟨j, hj, rfl, rfl⟩ := hrel
            by_cases hji : j < i
            · have y1 := HCC.out j hji
              have p1 : (j : Int) < (i : Int) := by omega
              have p2 : (0 : Int) ≤ (j : Int) := by omega
              have HJ := Lib.hid hji
              have HJW := Lib.hid (show wrap64 ((j : Int) + 1) = ((j + 1 : Nat) : Int) from wrap_atS (by omega) (by omega) (by have := HNUM.out; omega))
              clear hj hji
              go_wp2
              go_roundw
              case rel => exact ⟨j + 1, by have := HJ.out; omega, by first | rfl | (rw [HJW.out]) | go_num, by first | rfl | trivial⟩
              case measure => (try rw [HJW.out]); have := HJ.out; simp [intOf]; omega
            · have p1 : ¬ ((j : Int) < (i : Int)) := by omega
              obtain ⟨qb, hqb⟩ := quick_ex HNN.out
              have HQB := Lib.hid hqb
              have HP2 := Lib.hid (HTT.out.pick2 (c := Mc) HML.out HMO.out.rd (by have := HNUM.out; omega) (L := [(qb : Int)]) (N := 1) (.inr ⟨HNN.out, .inr (.inr ⟨by decide, by decide, qb, hqb, rfl, rfl⟩)⟩) rfl)
              clear hj hji hqb
              go_wp2_with fail
              refine HP2.out.mono ?_
              rintro e w6 ⟨A6, c6, rfl, ho6, ht6, hsc6⟩
              have HM6 := Lib.hid (HTT.out.own2 hsc6 HMO.out)
              have HO6 := Lib.hid ho6
              have HT6 := Lib.hid ht6
              have hall := canF_allU (ms := ms) (i := i) HMU.out
              have hca : can ms = canF ms i := by unfold can; rw [HML.out]
              rw [← hca] at hall
              have HALL := Lib.hid hall
              have HP3 := Lib.hid (ht6.pick3 (c := Mc) HML.out HM6.out.rd (by have := HNUM.out; omega) (L := can ms) (N := i) (.inr ⟨HNN.out, .inl ⟨rfl, rfl, rfl⟩⟩) hall.1)
              clear ho6 ht6 hsc6 hall hca HP2 HTT HMO
              go_wp2_with fail
              refine HP3.out.mono ?_
              rintro e w7 ⟨A7, c7, rfl, ho7, ht7, hsc7⟩
              have HM7 := Lib.hid (HT6.out.own3 hsc7 HM6.out)
              have HO7 := Lib.hid ho7
              have HX7 := Lib.hid (HT6.out.own3 hsc7 HO6.out)
              have HT7 := Lib.hid ht7
              obtain ⟨gx, rfl, -, -, -, hcx, -⟩ := HX7.out.block (by omega)
              have x0 : w7.cell? ⟨gx, 0, none⟩ = some (.int .i64 (qb : Int)) := hcx 0 (by omega)
              have HQL := Lib.hid (show (qb : Int) < (i : Int) ∧ qb < i by have := HQB.out.lt; rw [HML.out] at this; omega)
              have x1 : ¬ ((qb : Int) < 0) := by omega
              have x2 : ¬ ((qb : Int) ≥ (i : Int)) := by have := HQL.out; omega
              clear ho7 ht7 hsc7 hcx HP3 HM6 HO6 HT6
              obtain ⟨gm, rfl, -, -, -, hcm, -⟩ := HM7.out.block (by have := HNUM.out; omega)
              obtain ⟨gy, rfl, -, -, -, hcy, -⟩ := HO7.out.block (by have := HNUM.out; omega)
              have HCM := Lib.hid hcm
              have HCY := Lib.hid hcy
              clear hcm hcy
              go_upto_region 28 with (fail)
              go_cut [128] (fun bv wx => bv = .bool false ∧ w7 = wx)
              case first =>
                go_wp2
                go_meet
                exact ⟨by first | rfl | (simp; have := HQL.out; omega), rfl⟩
              case rest =>
              obtain ⟨rfl, rfl⟩ := hcut
              clear x1 x2
              go_wp2_with fail
              go_loopw [131] (fun jv wx => ∃ j : Nat, j ≤ i ∧ jv = .int .i64 j ∧ Hid (∃ q, wx = w7.drewN q)) (fun jv _ => i - (intOf jv).toNat)
              case atStart => exact ⟨0, by omega, rfl, Lib.hid ⟨0, rfl⟩⟩
              case round =>
                obtain ⟨j, hj, rfl, hwx⟩ := hrel
                obtain ⟨q, rfl⟩ := hwx.out
                by_cases hji : j < i
                · have m1 : (w7.drewN q).cell? ⟨gm, j, none⟩ = some (.int .i64 (ms.getD j 0)) := HCM.out j hji
                  have m2 : (w7.drewN q).cell? ⟨gm, qb, none⟩ = some (.int .i64 (ms.getD qb 0)) := HCM.out qb HQL.out.2
                  have m3 : (w7.drewN q).cell? ⟨gy, j, none⟩ = some (.int .i64 ((can ms).getD j 0)) := HCY.out j hji
                  have m4 : (w7.drewN q).cell? ⟨gx, 0, none⟩ = some (.int .i64 (qb : Int)) := x0
                  rw [HALL.out.2 j hji] at m3
                  have hle := HQB.out.least j (by rw [HML.out]; exact hji) (HMU.out j hji)
                  obtain ⟨mj, hmj⟩ : ∃ m, ms.getD j 0 = m := ⟨_, rfl⟩
                  obtain ⟨mq, hmq⟩ : ∃ m, ms.getD qb 0 = m := ⟨_, rfl⟩
                  rw [hmj] at m1
                  rw [hmq] at m2
                  rw [hmj, hmq] at hle
                  have p1 : (j : Int) < (i : Int) := by omega
                  have p2 : (0 : Int) ≤ (j : Int) := by omega
                  have p3 : (qb : Int) < (i : Int) := HQL.out.1
                  have p4 : (0 : Int) ≤ (qb : Int) := by omega
                  have HJ := Lib.hid hji
                  have HJW := Lib.hid (show wrap64 ((j : Int) + 1) = ((j + 1 : Nat) : Int) from wrap_atS (by omega) (by omega) (by have := HNUM.out; omega))
                  have l1 : ¬ (mj < mq) := by omega
                  have hcase : (mj = mq ∧ ¬ ((j : Int) < (qb : Int))) ∨ (mj == mq) = false := by
                    by_cases e : mj = mq
                    · exact .inl ⟨e, fun x => by have := hle.2 (by omega); omega⟩
                    · exact .inr (by rw [beq_eq_false_iff_ne]; exact e)
                  obtain ⟨WQ, hWQ⟩ : ∃ WQ, w7.drewN q = WQ := ⟨_, rfl⟩
                  have HWQ := Lib.hid hWQ
                  rw [hWQ] at m1 m2 m3 m4 ⊢
                  clear hj hji hle hmj hmq hwx hWQ
                  rcases hcase with ⟨e1, e2⟩ | e1
                  · subst e1
                    have l2 : decide (mj < mj) = false := decide_eq_false l1
                    have HL3 := Lib.hid (show ¬ (j < qb) by omega)
                    go_wp2_with fail
                    refine wp_region_held_drew (S := fun wi => wi.cell? ⟨gm, j, none⟩ = some (.int .i64 mj) ∧ wi.cell? ⟨gm, qb, none⟩ = some (.int .i64 mj) ∧ wi.cell? ⟨gy, j, none⟩ = some (.int .i64 (j : Int)) ∧ wi.cell? ⟨gx, 0, none⟩ = some (.int .i64 (qb : Int))) (by kernel_rfl) ⟨m1, m2, m3, m4⟩ ?_
                    intro hHeld
                    clear m1 m2 m3 m4
                    refine wpAnyH_take (i := 0) (v := ?_) rfl (by kernel_rfl) (by kernel_rfl) (by kernel_rfl) (fun _ _ _ h => h) (Or.inl ⟨by rfl, ?_⟩) (by assumption) ?_
                    rotate_left
                    · intro w hSw
                      (try dsimp only at hSw)
                      go_simp
                      try (with_reducible rfl)
                    try simp only [Act.put, List.getElem_toArray, List.getElem_cons_zero, List.setIfInBounds_toArray, List.set_cons_zero, List.set_cons_succ]
                    refine wpAnyH_take (i := 1) (v := ?_) rfl (by kernel_rfl) (by kernel_rfl) (by kernel_rfl) (fun _ _ _ h => h) (Or.inl ⟨by rfl, ?_⟩) (by assumption) ?_
                    rotate_left
                    · intro w hSw
                      (try dsimp only at hSw)
                      go_simp
                      try (with_reducible rfl)
                    try simp only [Act.put, List.getElem_toArray, List.getElem_cons_zero, List.getElem_cons_succ, List.setIfInBounds_toArray, List.set_cons_zero, List.set_cons_succ]
                    refine wpAnyH_take (i := 2) (v := ?_) rfl (by kernel_rfl) (by kernel_rfl) (by kernel_rfl) (fun _ _ _ h => h) (Or.inl ⟨by rfl, ?_⟩) (by assumption) ?_
                    rotate_left
                    · intro w hSw
                      (try dsimp only at hSw)
                      go_simp
                      try (with_reducible rfl)
                    try simp only [Act.put, List.getElem_toArray, List.getElem_cons_zero, List.getElem_cons_succ, List.setIfInBounds_toArray, List.set_cons_zero, List.set_cons_succ]
                    refine wpAnyH_take (i := 3) (v := ?_) rfl (by kernel_rfl) (by kernel_rfl) (by kernel_rfl) (fun _ _ _ h => h) (Or.inl ⟨by rfl, ?_⟩) (by assumption) ?_
                    rotate_left
                    · intro w hSw
                      (try dsimp only at hSw)
                      have c9 := hSw.1
                      clear hSw
                      go_simp
                      try (with_reducible rfl)
                    try simp only [Act.put, List.getElem_toArray, List.getElem_cons_zero, List.getElem_cons_succ, List.setIfInBounds_toArray, List.set_cons_zero, List.set_cons_succ]
                    refine wpAnyH_take (i := 4) (v := ?_) rfl (by kernel_rfl) (by kernel_rfl) (by kernel_rfl) (fun _ _ _ h => h) (Or.inl ⟨by rfl, ?_⟩) (by assumption) ?_
                    rotate_left
                    · intro w hSw
                      (try dsimp only at hSw)
                      go_simp
                      try (with_reducible rfl)
                    try simp only [Act.put, List.getElem_toArray, List.getElem_cons_zero, List.getElem_cons_succ, List.setIfInBounds_toArray, List.set_cons_zero, List.set_cons_succ]
                    refine wpAnyH_take (i := 5) (v := ?_) rfl (by kernel_rfl) (by kernel_rfl) (by kernel_rfl) (fun _ _ _ h => h) (Or.inl ⟨by rfl, ?_⟩) (by assumption) ?_
                    rotate_left
                    · intro w hSw
                      (try dsimp only at hSw)
                      go_simp
                      try (with_reducible rfl)
                    try simp only [Act.put, List.getElem_toArray, List.getElem_cons_zero, List.getElem_cons_succ, List.setIfInBounds_toArray, List.set_cons_zero, List.set_cons_succ]
                    refine wpAnyH_take (i := 6) (v := ?_) rfl (by kernel_rfl) (by kernel_rfl) (by kernel_rfl) (fun _ _ _ h => h) (Or.inl ⟨by rfl, ?_⟩) (by assumption) ?_
                    rotate_left
                    · intro w hSw
                      (try dsimp only at hSw)
                      go_simp
                      try (with_reducible rfl)
                    try simp only [Act.put, List.getElem_toArray, List.getElem_cons_zero, List.getElem_cons_succ, List.setIfInBounds_toArray, List.set_cons_zero, List.set_cons_succ]
                    refine wpAnyH_take (i := 7) (v := ?_) rfl (by kernel_rfl) (by kernel_rfl) (by kernel_rfl) (fun _ _ _ h => h) (Or.inl ⟨by rfl, ?_⟩) (by assumption) ?_
                    rotate_left
                    · intro w hSw
                      (try dsimp only at hSw)
                      have c9 := hSw.2.2.2
                      clear hSw
                      go_simp
                      try (with_reducible rfl)
                    try simp only [Act.put, List.getElem_toArray, List.getElem_cons_zero, List.getElem_cons_succ, List.setIfInBounds_toArray, List.set_cons_zero, List.set_cons_succ]
                    refine wpAnyH_take (i := 8) (v := ?_) rfl (by kernel_rfl) (by kernel_rfl) (by kernel_rfl) (fun _ _ _ h => h) (Or.inl ⟨by rfl, ?_⟩) (by assumption) ?_
                    rotate_left
                    · intro w hSw
                      (try dsimp only at hSw)
                      go_simp
                      try (with_reducible rfl)
                    try simp only [Act.put, List.getElem_toArray, List.getElem_cons_zero, List.getElem_cons_succ, List.setIfInBounds_toArray, List.set_cons_zero, List.set_cons_succ]
                    refine wpAnyH_take (i := 9) (v := ?_) rfl (by kernel_rfl) (by kernel_rfl) (by kernel_rfl) (fun _ _ _ h => h) (Or.inl ⟨by rfl, ?_⟩) (by assumption) ?_
                    rotate_left
                    · intro w hSw
                      (try dsimp only at hSw)
                      have c9 := hSw.2.1
                      clear hSw
                      go_simp
                      try (with_reducible rfl)
                    try simp only [Act.put, List.getElem_toArray, List.getElem_cons_zero, List.getElem_cons_succ, List.setIfInBounds_toArray, List.set_cons_zero, List.set_cons_succ]
                    refine wpAnyH_take (i := 10) (v := ?_) rfl (by kernel_rfl) (by kernel_rfl) (by kernel_rfl) (fun _ _ _ h => h) (Or.inl ⟨by rfl, ?_⟩) (by assumption) ?_
                    rotate_left
                    · intro w hSw
                      (try dsimp only at hSw)
                      go_simp
                      try (with_reducible rfl)
                    try simp only [Act.put, List.getElem_toArray, List.getElem_cons_zero, List.getElem_cons_succ, List.setIfInBounds_toArray, List.set_cons_zero, List.set_cons_succ]
                    refine wpAnyH_take (i := 11) (v := ?_) rfl (by kernel_rfl) (by kernel_rfl) (by kernel_rfl) (fun _ _ _ h => h) (Or.inl ⟨by rfl, ?_⟩) (by assumption) ?_
                    rotate_left
                    · intro w hSw
                      (try dsimp only at hSw)
                      go_simp
                      try (with_reducible rfl)
                    try simp only [Act.put, List.getElem_toArray, List.getElem_cons_zero, List.getElem_cons_succ, List.setIfInBounds_toArray, List.set_cons_zero, List.set_cons_succ]
                    refine wpAnyH_take (i := 12) (v := ?_) rfl (by kernel_rfl) (by kernel_rfl) (by kernel_rfl) (fun _ _ _ h => h) (Or.inl ⟨by rfl, ?_⟩) (by assumption) ?_
                    rotate_left
                    · intro w hSw
                      (try dsimp only at hSw)
                      go_simp
                      try (with_reducible rfl)
                    try simp only [Act.put, List.getElem_toArray, List.getElem_cons_zero, List.getElem_cons_succ, List.setIfInBounds_toArray, List.set_cons_zero, List.set_cons_succ]
                    refine wpAnyH_take (i := 13) (v := ?_) rfl (by kernel_rfl) (by kernel_rfl) (by kernel_rfl) (fun _ _ _ h => h) (Or.inl ⟨by rfl, ?_⟩) (by assumption) ?_
                    rotate_left
                    · intro w hSw
                      (try dsimp only at hSw)
                      go_simp
                      try (with_reducible rfl)
                    try simp only [Act.put, List.getElem_toArray, List.getElem_cons_zero, List.getElem_cons_succ, List.setIfInBounds_toArray, List.set_cons_zero, List.set_cons_succ]
                    refine wpAnyH_take (i := 14) (v := ?_) rfl (by kernel_rfl) (by kernel_rfl) (by kernel_rfl) (fun _ _ _ h => h) (Or.inl ⟨by rfl, ?_⟩) (by assumption) ?_
                    rotate_left
                    · intro w hSw
                      (try dsimp only at hSw)
                      go_simp
                      try (with_reducible rfl)
                    try simp only [Act.put, List.getElem_toArray, List.getElem_cons_zero, List.getElem_cons_succ, List.setIfInBounds_toArray, List.set_cons_zero, List.set_cons_succ]
                    refine wpAnyH_take (i := 15) (v := ?_) rfl (by kernel_rfl) (by kernel_rfl) (by kernel_rfl) (fun _ _ _ h => h) (Or.inl ⟨by rfl, ?_⟩) (by assumption) ?_
                    rotate_left
                    · intro w hSw
                      (try dsimp only at hSw)
                      have c9 := hSw.1
                      clear hSw
                      go_simp
                      try (with_reducible rfl)
                    try simp only [Act.put, List.getElem_toArray, List.getElem_cons_zero, List.getElem_cons_succ, List.setIfInBounds_toArray, List.set_cons_zero, List.set_cons_succ]
                    refine wpAnyH_take (i := 16) (v := ?_) rfl (by kernel_rfl) (by kernel_rfl) (by kernel_rfl) (fun _ _ _ h => h) (Or.inl ⟨by rfl, ?_⟩) (by assumption) ?_
                    rotate_left
                    · intro w hSw
                      (try dsimp only at hSw)
                      go_simp
                      try (with_reducible rfl)
                    try simp only [Act.put, List.getElem_toArray, List.getElem_cons_zero, List.getElem_cons_succ, List.setIfInBounds_toArray, List.set_cons_zero, List.set_cons_succ]
                    refine wpAnyH_take (i := 17) (v := ?_) rfl (by kernel_rfl) (by kernel_rfl) (by kernel_rfl) (fun _ _ _ h => h) (Or.inl ⟨by rfl, ?_⟩) (by assumption) ?_
                    rotate_left
                    · intro w hSw
                      (try dsimp only at hSw)
                      go_simp
                      try (with_reducible rfl)
                    try simp only [Act.put, List.getElem_toArray, List.getElem_cons_zero, List.getElem_cons_succ, List.setIfInBounds_toArray, List.set_cons_zero, List.set_cons_succ]
                    refine wpAnyH_take (i := 18) (v := ?_) rfl (by kernel_rfl) (by kernel_rfl) (by kernel_rfl) (fun _ _ _ h => h) (Or.inl ⟨by rfl, ?_⟩) (by assumption) ?_
                    rotate_left
                    · intro w hSw
                      (try dsimp only at hSw)
                      go_simp
                      try (with_reducible rfl)
                    try simp only [Act.put, List.getElem_toArray, List.getElem_cons_zero, List.getElem_cons_succ, List.setIfInBounds_toArray, List.set_cons_zero, List.set_cons_succ]
                    refine wpAnyH_take (i := 19) (v := ?_) rfl (by kernel_rfl) (by kernel_rfl) (by kernel_rfl) (fun _ _ _ h => h) (Or.inl ⟨by rfl, ?_⟩) (by assumption) ?_
                    rotate_left
                    · intro w hSw
                      (try dsimp only at hSw)
                      have c9 := hSw.2.2.2
                      clear hSw
                      go_simp
                      try (with_reducible rfl)
                    try simp only [Act.put, List.getElem_toArray, List.getElem_cons_zero, List.getElem_cons_succ, List.setIfInBounds_toArray, List.set_cons_zero, List.set_cons_succ]
                    refine wpAnyH_take (i := 20) (v := ?_) rfl (by kernel_rfl) (by kernel_rfl) (by kernel_rfl) (fun _ _ _ h => h) (Or.inl ⟨by rfl, ?_⟩) (by assumption) ?_
                    rotate_left
                    · intro w hSw
                      (try dsimp only at hSw)
                      go_simp
                      try (with_reducible rfl)
                    try simp only [Act.put, List.getElem_toArray, List.getElem_cons_zero, List.getElem_cons_succ, List.setIfInBounds_toArray, List.set_cons_zero, List.set_cons_succ]
                    refine wpAnyH_take (i := 21) (v := ?_) rfl (by kernel_rfl) (by kernel_rfl) (by kernel_rfl) (fun _ _ _ h => h) (Or.inl ⟨by rfl, ?_⟩) (by assumption) ?_
                    rotate_left
                    · intro w hSw
                      (try dsimp only at hSw)
                      have c9 := hSw.2.1
                      clear hSw
                      go_simp
                      try (with_reducible rfl)
                    try simp only [Act.put, List.getElem_toArray, List.getElem_cons_zero, List.getElem_cons_succ, List.setIfInBounds_toArray, List.set_cons_zero, List.set_cons_succ]
                    refine wpAnyH_take (i := 22) (v := ?_) rfl (by kernel_rfl) (by kernel_rfl) (by kernel_rfl) (fun _ _ _ h => h) (Or.inl ⟨by rfl, ?_⟩) (by assumption) ?_
                    rotate_left
                    · intro w hSw
                      (try dsimp only at hSw)
                      go_simp
                      try (with_reducible rfl)
                    try simp only [Act.put, List.getElem_toArray, List.getElem_cons_zero, List.getElem_cons_succ, List.setIfInBounds_toArray, List.set_cons_zero, List.set_cons_succ]
                    refine wpAnyH_take (i := 23) (v := ?_) rfl (by kernel_rfl) (by kernel_rfl) (by kernel_rfl) (fun _ _ _ h => h) (Or.inl ⟨by rfl, ?_⟩) (by assumption) ?_
                    rotate_left
                    · intro w hSw
                      (try dsimp only at hSw)
                      go_simp
                      try (with_reducible rfl)
                    try simp only [Act.put, List.getElem_toArray, List.getElem_cons_zero, List.getElem_cons_succ, List.setIfInBounds_toArray, List.set_cons_zero, List.set_cons_succ]
                    refine wpAnyH_take (i := 24) (v := ?_) rfl (by kernel_rfl) (by kernel_rfl) (by kernel_rfl) (fun _ _ _ h => h) (Or.inl ⟨by rfl, ?_⟩) (by assumption) ?_
                    rotate_left
                    · intro w hSw
                      (try dsimp only at hSw)
                      go_simp
                      try (with_reducible rfl)
                    try simp only [Act.put, List.getElem_toArray, List.getElem_cons_zero, List.getElem_cons_succ, List.setIfInBounds_toArray, List.set_cons_zero, List.set_cons_succ]
                    refine wpAnyH_take (i := 25) (v := ?_) rfl (by kernel_rfl) (by kernel_rfl) (by kernel_rfl) (fun _ _ _ h => h) (Or.inl ⟨by rfl, ?_⟩) (by assumption) ?_
                    rotate_left
                    · intro w hSw
                      (try dsimp only at hSw)
                      go_simp
                      try (with_reducible rfl)
                    try simp only [Act.put, List.getElem_toArray, List.getElem_cons_zero, List.getElem_cons_succ, List.setIfInBounds_toArray, List.set_cons_zero, List.set_cons_succ]
                    refine wpAnyH_take (i := 26) (v := ?_) rfl (by kernel_rfl) (by kernel_rfl) (by kernel_rfl) (fun _ _ _ h => h) (Or.inl ⟨by rfl, ?_⟩) (by assumption) ?_
                    rotate_left
                    · intro w hSw
                      (try dsimp only at hSw)
                      go_simp
                      try (with_reducible rfl)
                    try simp only [Act.put, List.getElem_toArray, List.getElem_cons_zero, List.getElem_cons_succ, List.setIfInBounds_toArray, List.set_cons_zero, List.set_cons_succ]
                    refine wpAnyH_take (i := 27) (v := ?_) rfl (by kernel_rfl) (by kernel_rfl) (by kernel_rfl) (fun _ _ _ h => h) (Or.inl ⟨by rfl, ?_⟩) (by assumption) ?_
                    rotate_left
                    · intro w hSw
                      (try dsimp only at hSw)
                      have c9 := hSw.2.2.2
                      clear hSw
                      go_simp
                      try (with_reducible rfl)
                    try simp only [Act.put, List.getElem_toArray, List.getElem_cons_zero, List.getElem_cons_succ, List.setIfInBounds_toArray, List.set_cons_zero, List.set_cons_succ]
                    have e8 : ¬ (j < qb) := HL3.out
                    have e9 : decide (j < qb) = false := decide_eq_false e8
                    have e10 : ¬ ((j : Int) < (qb : Int)) := by omega
                    have e11 : decide ((j : Int) < (qb : Int)) = false := decide_eq_false e10
                    refine wpAnyH_take (i := 28) (v := ?_) rfl (by kernel_rfl) (by kernel_rfl) (by kernel_rfl) (fun _ _ _ h => h) (Or.inl ⟨by rfl, ?_⟩) (by assumption) ?_
                    rotate_left
                    · intro w hSw
                      (try dsimp only at hSw)
                      go_simp
                      try (with_reducible rfl)
                    try simp only [Act.put, List.getElem_toArray, List.getElem_cons_zero, List.getElem_cons_succ, List.setIfInBounds_toArray, List.set_cons_zero, List.set_cons_succ]
                    refine wpAnyH_take (i := 29) (v := ?_) rfl (by kernel_rfl) (by kernel_rfl) (by kernel_rfl) (fun _ _ _ h => h) (Or.inl ⟨by rfl, ?_⟩) (by assumption) ?_
                    rotate_left
                    · intro w hSw
                      (try dsimp only at hSw)
                      go_simp
                      try (with_reducible rfl)
                    try simp only [Act.put, List.getElem_toArray, List.getElem_cons_zero, List.getElem_cons_succ, List.setIfInBounds_toArray, List.set_cons_zero, List.set_cons_succ]
                    refine wpAnyH_take (i := 30) (v := ?_) rfl (by kernel_rfl) (by kernel_rfl) (by kernel_rfl) (fun _ _ _ h => h) (Or.inl ⟨by rfl, ?_⟩) (by assumption) ?_
                    rotate_left
                    · intro w hSw
                      (try dsimp only at hSw)
                      go_simp
                      try (with_reducible rfl)
                    try simp only [Act.put, List.getElem_toArray, List.getElem_cons_zero, List.getElem_cons_succ, List.setIfInBounds_toArray, List.set_cons_zero, List.set_cons_succ]
                    refine wpAnyH_take (i := 31) (v := ?_) rfl (by kernel_rfl) (by kernel_rfl) (by kernel_rfl) (fun _ _ _ h => h) (Or.inl ⟨by rfl, ?_⟩) (by assumption) ?_
                    rotate_left
                    · intro w hSw
                      (try dsimp only at hSw)
                      go_simp
                      try (with_reducible rfl)
                    try simp only [Act.put, List.getElem_toArray, List.getElem_cons_zero, List.getElem_cons_succ, List.setIfInBounds_toArray, List.set_cons_zero, List.set_cons_succ]
                    refine wpAnyH_take (i := 32) (v := ?_) rfl (by kernel_rfl) (by kernel_rfl) (by kernel_rfl) (fun _ _ _ h => h) (Or.inl ⟨by rfl, ?_⟩) (by assumption) ?_
                    rotate_left
                    · intro w hSw
                      (try dsimp only at hSw)
                      go_simp
                      try (with_reducible rfl)
                    try simp only [Act.put, List.getElem_toArray, List.getElem_cons_zero, List.getElem_cons_succ, List.setIfInBounds_toArray, List.set_cons_zero, List.set_cons_succ]
                    refine wpAnyH_take (i := 33) (v := ?_) rfl (by kernel_rfl) (by kernel_rfl) (by kernel_rfl) (fun _ _ _ h => h) (Or.inl ⟨by rfl, ?_⟩) (by assumption) ?_
                    rotate_left
                    · intro w hSw
                      (try dsimp only at hSw)
                      go_simp
                      try (with_reducible rfl)
                    try simp only [Act.put, List.getElem_toArray, List.getElem_cons_zero, List.getElem_cons_succ, List.setIfInBounds_toArray, List.set_cons_zero, List.set_cons_succ]
                    refine wpAnyH_take (i := 34) (v := ?_) rfl (by kernel_rfl) (by kernel_rfl) (by kernel_rfl) (fun _ _ _ h => h) (Or.inl ⟨by rfl, ?_⟩) (by assumption) ?_
                    rotate_left
                    · intro w hSw
                      (try dsimp only at hSw)
                      go_simp
                      try (with_reducible rfl)
                    try simp only [Act.put, List.getElem_toArray, List.getElem_cons_zero, List.getElem_cons_succ, List.setIfInBounds_toArray, List.set_cons_zero, List.set_cons_succ]
                    refine wpAnyH_take (i := 35) (v := ?_) rfl (by kernel_rfl) (by kernel_rfl) (by kernel_rfl) (fun _ _ _ h => h) (Or.inl ⟨by rfl, ?_⟩) (by assumption) ?_
                    rotate_left
                    · intro w hSw
                      (try dsimp only at hSw)
                      have c9 := hSw.2.2.1
                      clear hSw
                      go_simp
                      try (with_reducible rfl)
                    try simp only [Act.put, List.getElem_toArray, List.getElem_cons_zero, List.getElem_cons_succ, List.setIfInBounds_toArray, List.set_cons_zero, List.set_cons_succ]
                    refine wpAnyH_take (i := 36) (v := ?_) rfl (by kernel_rfl) (by kernel_rfl) (by kernel_rfl) (fun _ _ _ h => h) (Or.inl ⟨by rfl, ?_⟩) (by assumption) ?_
                    rotate_left
                    · intro w hSw
                      (try dsimp only at hSw)
                      go_simp
                      try (with_reducible rfl)
                    try simp only [Act.put, List.getElem_toArray, List.getElem_cons_zero, List.getElem_cons_succ, List.setIfInBounds_toArray, List.set_cons_zero, List.set_cons_succ]
                    refine wpAnyH_take (i := 37) (v := ?_) rfl (by kernel_rfl) (by kernel_rfl) (by kernel_rfl) (fun _ _ _ h => h) (Or.inl ⟨by rfl, ?_⟩) (by assumption) ?_
                    rotate_left
                    · intro w hSw
                      (try dsimp only at hSw)
                      go_simp
                      try (with_reducible rfl)
                    try simp only [Act.put, List.getElem_toArray, List.getElem_cons_zero, List.getElem_cons_succ, List.setIfInBounds_toArray, List.set_cons_zero, List.set_cons_succ]
                    refine wpAnyH_take (i := 38) (v := ?_) rfl (by kernel_rfl) (by kernel_rfl) (by kernel_rfl) (fun _ _ _ h => h) (Or.inl ⟨by rfl, ?_⟩) (by assumption) ?_
                    rotate_left
                    · intro w hSw
                      (try dsimp only at hSw)
                      go_simp
                      try (with_reducible rfl)
                    try simp only [Act.put, List.getElem_toArray, List.getElem_cons_zero, List.getElem_cons_succ, List.setIfInBounds_toArray, List.set_cons_zero, List.set_cons_succ]
                    clear l2 e8 e9 e10 e11
                    refine wpAnyH_done (by kernel_rfl) ?_ _
                    go_wp2
                    go_roundw
                    case rel => exact ⟨j + 1, by have := HJ.out; omega, by first | rfl | (rw [HJW.out]) | go_num, Lib.hid ⟨q + 1, by rw [← HWQ.out]; rfl⟩⟩
                    case measure => (try rw [HJW.out]); have := HJ.out; simp [intOf]; omega
                  · have HE1 := Lib.hid e1
                    have HL1 := Lib.hid (decide_eq_false l1)
                    go_wp2_with fail
                    refine wp_region_held_drew (S := fun wi => wi.cell? ⟨gm, j, none⟩ = some (.int .i64 mj) ∧ wi.cell? ⟨gm, qb, none⟩ = some (.int .i64 mq) ∧ wi.cell? ⟨gy, j, none⟩ = some (.int .i64 (j : Int)) ∧ wi.cell? ⟨gx, 0, none⟩ = some (.int .i64 (qb : Int))) (by kernel_rfl) ⟨m1, m2, m3, m4⟩ ?_
                    intro hHeld
                    clear m1 m2 m3 m4
                    refine wpAnyH_take (i := 0) (v := ?_) rfl (by kernel_rfl) (by kernel_rfl) (by kernel_rfl) (fun _ _ _ h => h) (Or.inl ⟨by rfl, ?_⟩) (by assumption) ?_
                    rotate_left
                    · intro w hSw
                      (try dsimp only at hSw)
                      go_simp
                      try (with_reducible rfl)
                    try simp only [Act.put, List.getElem_toArray, List.getElem_cons_zero, List.setIfInBounds_toArray, List.set_cons_zero, List.set_cons_succ]
                    refine wpAnyH_take (i := 1) (v := ?_) rfl (by kernel_rfl) (by kernel_rfl) (by kernel_rfl) (fun _ _ _ h => h) (Or.inl ⟨by rfl, ?_⟩) (by assumption) ?_
                    rotate_left
                    · intro w hSw
                      (try dsimp only at hSw)
                      go_simp
                      try (with_reducible rfl)
                    try simp only [Act.put, List.getElem_toArray, List.getElem_cons_zero, List.getElem_cons_succ, List.setIfInBounds_toArray, List.set_cons_zero, List.set_cons_succ]
                    refine wpAnyH_take (i := 2) (v := ?_) rfl (by kernel_rfl) (by kernel_rfl) (by kernel_rfl) (fun _ _ _ h => h) (Or.inl ⟨by rfl, ?_⟩) (by assumption) ?_
                    rotate_left
                    · intro w hSw
                      (try dsimp only at hSw)
                      go_simp
                      try (with_reducible rfl)
                    try simp only [Act.put, List.getElem_toArray, List.getElem_cons_zero, List.getElem_cons_succ, List.setIfInBounds_toArray, List.set_cons_zero, List.set_cons_succ]
                    refine wpAnyH_take (i := 3) (v := ?_) rfl (by kernel_rfl) (by kernel_rfl) (by kernel_rfl) (fun _ _ _ h => h) (Or.inl ⟨by rfl, ?_⟩) (by assumption) ?_
                    rotate_left
                    · intro w hSw
                      (try dsimp only at hSw)
                      have c9 := hSw.1
                      clear hSw
                      go_simp
                      try (with_reducible rfl)
                    try simp only [Act.put, List.getElem_toArray, List.getElem_cons_zero, List.getElem_cons_succ, List.setIfInBounds_toArray, List.set_cons_zero, List.set_cons_succ]
                    refine wpAnyH_take (i := 4) (v := ?_) rfl (by kernel_rfl) (by kernel_rfl) (by kernel_rfl) (fun _ _ _ h => h) (Or.inl ⟨by rfl, ?_⟩) (by assumption) ?_
                    rotate_left
                    · intro w hSw
                      (try dsimp only at hSw)
                      go_simp
                      try (with_reducible rfl)
                    try simp only [Act.put, List.getElem_toArray, List.getElem_cons_zero, List.getElem_cons_succ, List.setIfInBounds_toArray, List.set_cons_zero, List.set_cons_succ]
                    refine wpAnyH_take (i := 5) (v := ?_) rfl (by kernel_rfl) (by kernel_rfl) (by kernel_rfl) (fun _ _ _ h => h) (Or.inl ⟨by rfl, ?_⟩) (by assumption) ?_
                    rotate_left
                    · intro w hSw
                      (try dsimp only at hSw)
                      go_simp
                      try (with_reducible rfl)
                    try simp only [Act.put, List.getElem_toArray, List.getElem_cons_zero, List.getElem_cons_succ, List.setIfInBounds_toArray, List.set_cons_zero, List.set_cons_succ]
                    refine wpAnyH_take (i := 6) (v := ?_) rfl (by kernel_rfl) (by kernel_rfl) (by kernel_rfl) (fun _ _ _ h => h) (Or.inl ⟨by rfl, ?_⟩) (by assumption) ?_
                    rotate_left
                    · intro w hSw
                      (try dsimp only at hSw)
                      go_simp
                      try (with_reducible rfl)
                    try simp only [Act.put, List.getElem_toArray, List.getElem_cons_zero, List.getElem_cons_succ, List.setIfInBounds_toArray, List.set_cons_zero, List.set_cons_succ]
                    refine wpAnyH_take (i := 7) (v := ?_) rfl (by kernel_rfl) (by kernel_rfl) (by kernel_rfl) (fun _ _ _ h => h) (Or.inl ⟨by rfl, ?_⟩) (by assumption) ?_
                    rotate_left
                    · intro w hSw
                      (try dsimp only at hSw)
                      have c9 := hSw.2.2.2
                      clear hSw
                      go_simp
                      try (with_reducible rfl)
                    try simp only [Act.put, List.getElem_toArray, List.getElem_cons_zero, List.getElem_cons_succ, List.setIfInBounds_toArray, List.set_cons_zero, List.set_cons_succ]
                    refine wpAnyH_take (i := 8) (v := ?_) rfl (by kernel_rfl) (by kernel_rfl) (by kernel_rfl) (fun _ _ _ h => h) (Or.inl ⟨by rfl, ?_⟩) (by assumption) ?_
                    rotate_left
                    · intro w hSw
                      (try dsimp only at hSw)
                      go_simp
                      try (with_reducible rfl)
                    try simp only [Act.put, List.getElem_toArray, List.getElem_cons_zero, List.getElem_cons_succ, List.setIfInBounds_toArray, List.set_cons_zero, List.set_cons_succ]
                    refine wpAnyH_take (i := 9) (v := ?_) rfl (by kernel_rfl) (by kernel_rfl) (by kernel_rfl) (fun _ _ _ h => h) (Or.inl ⟨by rfl, ?_⟩) (by assumption) ?_
                    rotate_left
                    · intro w hSw
                      (try dsimp only at hSw)
                      have c9 := hSw.2.1
                      clear hSw
                      go_simp
                      try (with_reducible rfl)
                    try simp only [Act.put, List.getElem_toArray, List.getElem_cons_zero, List.getElem_cons_succ, List.setIfInBounds_toArray, List.set_cons_zero, List.set_cons_succ]
                    have e8 : decide (mj < mq) = false := HL1.out
                    have e9 : ¬ (mj < mq) := of_decide_eq_false e8
                    refine wpAnyH_take (i := 10) (v := ?_) rfl (by kernel_rfl) (by kernel_rfl) (by kernel_rfl) (fun _ _ _ h => h) (Or.inl ⟨by rfl, ?_⟩) (by assumption) ?_
                    rotate_left
                    · intro w hSw
                      (try dsimp only at hSw)
                      go_simp
                      try (with_reducible rfl)
                    try simp only [Act.put, List.getElem_toArray, List.getElem_cons_zero, List.getElem_cons_succ, List.setIfInBounds_toArray, List.set_cons_zero, List.set_cons_succ]
                    refine wpAnyH_take (i := 11) (v := ?_) rfl (by kernel_rfl) (by kernel_rfl) (by kernel_rfl) (fun _ _ _ h => h) (Or.inl ⟨by rfl, ?_⟩) (by assumption) ?_
                    rotate_left
                    · intro w hSw
                      (try dsimp only at hSw)
                      go_simp
                      try (with_reducible rfl)
                    try simp only [Act.put, List.getElem_toArray, List.getElem_cons_zero, List.getElem_cons_succ, List.setIfInBounds_toArray, List.set_cons_zero, List.set_cons_succ]
                    refine wpAnyH_take (i := 12) (v := ?_) rfl (by kernel_rfl) (by kernel_rfl) (by kernel_rfl) (fun _ _ _ h => h) (Or.inl ⟨by rfl, ?_⟩) (by assumption) ?_
                    rotate_left
                    · intro w hSw
                      (try dsimp only at hSw)
                      go_simp
                      try (with_reducible rfl)
                    try simp only [Act.put, List.getElem_toArray, List.getElem_cons_zero, List.getElem_cons_succ, List.setIfInBounds_toArray, List.set_cons_zero, List.set_cons_succ]
                    refine wpAnyH_take (i := 13) (v := ?_) rfl (by kernel_rfl) (by kernel_rfl) (by kernel_rfl) (fun _ _ _ h => h) (Or.inl ⟨by rfl, ?_⟩) (by assumption) ?_
                    rotate_left
                    · intro w hSw
                      (try dsimp only at hSw)
                      go_simp
                      try (with_reducible rfl)
                    try simp only [Act.put, List.getElem_toArray, List.getElem_cons_zero, List.getElem_cons_succ, List.setIfInBounds_toArray, List.set_cons_zero, List.set_cons_succ]
                    refine wpAnyH_take (i := 14) (v := ?_) rfl (by kernel_rfl) (by kernel_rfl) (by kernel_rfl) (fun _ _ _ h => h) (Or.inl ⟨by rfl, ?_⟩) (by assumption) ?_
                    rotate_left
                    · intro w hSw
                      (try dsimp only at hSw)
                      go_simp
                      try (with_reducible rfl)
                    try simp only [Act.put, List.getElem_toArray, List.getElem_cons_zero, List.getElem_cons_succ, List.setIfInBounds_toArray, List.set_cons_zero, List.set_cons_succ]
                    refine wpAnyH_take (i := 15) (v := ?_) rfl (by kernel_rfl) (by kernel_rfl) (by kernel_rfl) (fun _ _ _ h => h) (Or.inl ⟨by rfl, ?_⟩) (by assumption) ?_
                    rotate_left
                    · intro w hSw
                      (try dsimp only at hSw)
                      have c9 := hSw.1
                      clear hSw
                      go_simp
                      try (with_reducible rfl)
                    try simp only [Act.put, List.getElem_toArray, List.getElem_cons_zero, List.getElem_cons_succ, List.setIfInBounds_toArray, List.set_cons_zero, List.set_cons_succ]
                    refine wpAnyH_take (i := 16) (v := ?_) rfl (by kernel_rfl) (by kernel_rfl) (by kernel_rfl) (fun _ _ _ h => h) (Or.inl ⟨by rfl, ?_⟩) (by assumption) ?_
                    rotate_left
                    · intro w hSw
                      (try dsimp only at hSw)
                      go_simp
                      try (with_reducible rfl)
                    try simp only [Act.put, List.getElem_toArray, List.getElem_cons_zero, List.getElem_cons_succ, List.setIfInBounds_toArray, List.set_cons_zero, List.set_cons_succ]
                    refine wpAnyH_take (i := 17) (v := ?_) rfl (by kernel_rfl) (by kernel_rfl) (by kernel_rfl) (fun _ _ _ h => h) (Or.inl ⟨by rfl, ?_⟩) (by assumption) ?_
                    rotate_left
                    · intro w hSw
                      (try dsimp only at hSw)
                      go_simp
                      try (with_reducible rfl)
                    try simp only [Act.put, List.getElem_toArray, List.getElem_cons_zero, List.getElem_cons_succ, List.setIfInBounds_toArray, List.set_cons_zero, List.set_cons_succ]
                    refine wpAnyH_take (i := 18) (v := ?_) rfl (by kernel_rfl) (by kernel_rfl) (by kernel_rfl) (fun _ _ _ h => h) (Or.inl ⟨by rfl, ?_⟩) (by assumption) ?_
                    rotate_left
                    · intro w hSw
                      (try dsimp only at hSw)
                      go_simp
                      try (with_reducible rfl)
                    try simp only [Act.put, List.getElem_toArray, List.getElem_cons_zero, List.getElem_cons_succ, List.setIfInBounds_toArray, List.set_cons_zero, List.set_cons_succ]
                    refine wpAnyH_take (i := 19) (v := ?_) rfl (by kernel_rfl) (by kernel_rfl) (by kernel_rfl) (fun _ _ _ h => h) (Or.inl ⟨by rfl, ?_⟩) (by assumption) ?_
                    rotate_left
                    · intro w hSw
                      (try dsimp only at hSw)
                      have c9 := hSw.2.2.2
                      clear hSw
                      go_simp
                      try (with_reducible rfl)
                    try simp only [Act.put, List.getElem_toArray, List.getElem_cons_zero, List.getElem_cons_succ, List.setIfInBounds_toArray, List.set_cons_zero, List.set_cons_succ]
                    refine wpAnyH_take (i := 20) (v := ?_) rfl (by kernel_rfl) (by kernel_rfl) (by kernel_rfl) (fun _ _ _ h => h) (Or.inl ⟨by rfl, ?_⟩) (by assumption) ?_
                    rotate_left
                    · intro w hSw
                      (try dsimp only at hSw)
                      go_simp
                      try (with_reducible rfl)
                    try simp only [Act.put, List.getElem_toArray, List.getElem_cons_zero, List.getElem_cons_succ, List.setIfInBounds_toArray, List.set_cons_zero, List.set_cons_succ]
                    refine wpAnyH_take (i := 21) (v := ?_) rfl (by kernel_rfl) (by kernel_rfl) (by kernel_rfl) (fun _ _ _ h => h) (Or.inl ⟨by rfl, ?_⟩) (by assumption) ?_
                    rotate_left
                    · intro w hSw
                      (try dsimp only at hSw)
                      have c9 := hSw.2.1
                      clear hSw
                      go_simp
                      try (with_reducible rfl)
                    try simp only [Act.put, List.getElem_toArray, List.getElem_cons_zero, List.getElem_cons_succ, List.setIfInBounds_toArray, List.set_cons_zero, List.set_cons_succ]
                    have e5 : (mj == mq) = false := HE1.out
                    have e6 : ¬ (mj = mq) := by rw [beq_eq_false_iff_ne] at e5; exact e5
                    have e7 : decide (mj = mq) = false := decide_eq_false e6
                    refine wpAnyH_take (i := 22) (v := ?_) rfl (by kernel_rfl) (by kernel_rfl) (by kernel_rfl) (fun _ _ _ h => h) (Or.inl ⟨by rfl, ?_⟩) (by assumption) ?_
                    rotate_left
                    · intro w hSw
                      (try dsimp only at hSw)
                      go_simp
                      try (with_reducible rfl)
                    try simp only [Act.put, List.getElem_toArray, List.getElem_cons_zero, List.getElem_cons_succ, List.setIfInBounds_toArray, List.set_cons_zero, List.set_cons_succ]
                    refine wpAnyH_take (i := 23) (v := ?_) rfl (by kernel_rfl) (by kernel_rfl) (by kernel_rfl) (fun _ _ _ h => h) (Or.inl ⟨by rfl, ?_⟩) (by assumption) ?_
                    rotate_left
                    · intro w hSw
                      (try dsimp only at hSw)
                      go_simp
                      try (with_reducible rfl)
                    try simp only [Act.put, List.getElem_toArray, List.getElem_cons_zero, List.getElem_cons_succ, List.setIfInBounds_toArray, List.set_cons_zero, List.set_cons_succ]
                    refine wpAnyH_take (i := 24) (v := undef) rfl (by kernel_rfl) (by kernel_rfl) (by kernel_rfl) (fun _ _ _ h => h) (Or.inr ⟨by rfl, rfl⟩) (by assumption) ?_
                    try simp only [Act.put, List.getElem_toArray, List.getElem_cons_zero, List.getElem_cons_succ, List.setIfInBounds_toArray, List.set_cons_zero, List.set_cons_succ]
                    refine wpAnyH_take (i := 25) (v := undef) rfl (by kernel_rfl) (by kernel_rfl) (by kernel_rfl) (fun _ _ _ h => h) (Or.inr ⟨by rfl, rfl⟩) (by assumption) ?_
                    try simp only [Act.put, List.getElem_toArray, List.getElem_cons_zero, List.getElem_cons_succ, List.setIfInBounds_toArray, List.set_cons_zero, List.set_cons_succ]
                    refine wpAnyH_take (i := 26) (v := undef) rfl (by kernel_rfl) (by kernel_rfl) (by kernel_rfl) (fun _ _ _ h => h) (Or.inr ⟨by rfl, rfl⟩) (by assumption) ?_
                    try simp only [Act.put, List.getElem_toArray, List.getElem_cons_zero, List.getElem_cons_succ, List.setIfInBounds_toArray, List.set_cons_zero, List.set_cons_succ]
                    refine wpAnyH_take (i := 27) (v := undef) rfl (by kernel_rfl) (by kernel_rfl) (by kernel_rfl) (fun _ _ _ h => h) (Or.inr ⟨by rfl, rfl⟩) (by assumption) ?_
                    try simp only [Act.put, List.getElem_toArray, List.getElem_cons_zero, List.getElem_cons_succ, List.setIfInBounds_toArray, List.set_cons_zero, List.set_cons_succ]
                    refine wpAnyH_take (i := 28) (v := undef) rfl (by kernel_rfl) (by kernel_rfl) (by kernel_rfl) (fun _ _ _ h => h) (Or.inr ⟨by rfl, rfl⟩) (by assumption) ?_
                    try simp only [Act.put, List.getElem_toArray, List.getElem_cons_zero, List.getElem_cons_succ, List.setIfInBounds_toArray, List.set_cons_zero, List.set_cons_succ]
                    refine wpAnyH_take (i := 29) (v := ?_) rfl (by kernel_rfl) (by kernel_rfl) (by kernel_rfl) (fun _ _ _ h => h) (Or.inl ⟨by rfl, ?_⟩) (by assumption) ?_
                    rotate_left
                    · intro w hSw
                      (try dsimp only at hSw)
                      go_simp
                      try (with_reducible rfl)
                    try simp only [Act.put, List.getElem_toArray, List.getElem_cons_zero, List.getElem_cons_succ, List.setIfInBounds_toArray, List.set_cons_zero, List.set_cons_succ]
                    refine wpAnyH_take (i := 30) (v := ?_) rfl (by kernel_rfl) (by kernel_rfl) (by kernel_rfl) (fun _ _ _ h => h) (Or.inl ⟨by rfl, ?_⟩) (by assumption) ?_
                    rotate_left
                    · intro w hSw
                      (try dsimp only at hSw)
                      go_simp
                      try (with_reducible rfl)
                    try simp only [Act.put, List.getElem_toArray, List.getElem_cons_zero, List.getElem_cons_succ, List.setIfInBounds_toArray, List.set_cons_zero, List.set_cons_succ]
                    refine wpAnyH_take (i := 31) (v := ?_) rfl (by kernel_rfl) (by kernel_rfl) (by kernel_rfl) (fun _ _ _ h => h) (Or.inl ⟨by rfl, ?_⟩) (by assumption) ?_
                    rotate_left
                    · intro w hSw
                      (try dsimp only at hSw)
                      go_simp
                      try (with_reducible rfl)
                    try simp only [Act.put, List.getElem_toArray, List.getElem_cons_zero, List.getElem_cons_succ, List.setIfInBounds_toArray, List.set_cons_zero, List.set_cons_succ]
                    refine wpAnyH_take (i := 32) (v := ?_) rfl (by kernel_rfl) (by kernel_rfl) (by kernel_rfl) (fun _ _ _ h => h) (Or.inl ⟨by rfl, ?_⟩) (by assumption) ?_
                    rotate_left
                    · intro w hSw
                      (try dsimp only at hSw)
                      go_simp
                      try (with_reducible rfl)
                    try simp only [Act.put, List.getElem_toArray, List.getElem_cons_zero, List.getElem_cons_succ, List.setIfInBounds_toArray, List.set_cons_zero, List.set_cons_succ]
                    refine wpAnyH_take (i := 33) (v := ?_) rfl (by kernel_rfl) (by kernel_rfl) (by kernel_rfl) (fun _ _ _ h => h) (Or.inl ⟨by rfl, ?_⟩) (by assumption) ?_
                    rotate_left
                    · intro w hSw
                      (try dsimp only at hSw)
                      go_simp
                      try (with_reducible rfl)
                    try simp only [Act.put, List.getElem_toArray, List.getElem_cons_zero, List.getElem_cons_succ, List.setIfInBounds_toArray, List.set_cons_zero, List.set_cons_succ]
                    refine wpAnyH_take (i := 34) (v := ?_) rfl (by kernel_rfl) (by kernel_rfl) (by kernel_rfl) (fun _ _ _ h => h) (Or.inl ⟨by rfl, ?_⟩) (by assumption) ?_
                    rotate_left
                    · intro w hSw
                      (try dsimp only at hSw)
                      go_simp
                      try (with_reducible rfl)
                    try simp only [Act.put, List.getElem_toArray, List.getElem_cons_zero, List.getElem_cons_succ, List.setIfInBounds_toArray, List.set_cons_zero, List.set_cons_succ]
                    refine wpAnyH_take (i := 35) (v := ?_) rfl (by kernel_rfl) (by kernel_rfl) (by kernel_rfl) (fun _ _ _ h => h) (Or.inl ⟨by rfl, ?_⟩) (by assumption) ?_
                    rotate_left
                    · intro w hSw
                      (try dsimp only at hSw)
                      have c9 := hSw.2.2.1
                      clear hSw
                      go_simp
                      try (with_reducible rfl)
                    try simp only [Act.put, List.getElem_toArray, List.getElem_cons_zero, List.getElem_cons_succ, List.setIfInBounds_toArray, List.set_cons_zero, List.set_cons_succ]
                    refine wpAnyH_take (i := 36) (v := ?_) rfl (by kernel_rfl) (by kernel_rfl) (by kernel_rfl) (fun _ _ _ h => h) (Or.inl ⟨by rfl, ?_⟩) (by assumption) ?_
                    rotate_left
                    · intro w hSw
                      (try dsimp only at hSw)
                      go_simp
                      try (with_reducible rfl)
                    try simp only [Act.put, List.getElem_toArray, List.getElem_cons_zero, List.getElem_cons_succ, List.setIfInBounds_toArray, List.set_cons_zero, List.set_cons_succ]
                    refine wpAnyH_take (i := 37) (v := ?_) rfl (by kernel_rfl) (by kernel_rfl) (by kernel_rfl) (fun _ _ _ h => h) (Or.inl ⟨by rfl, ?_⟩) (by assumption) ?_
                    rotate_left
                    · intro w hSw
                      (try dsimp only at hSw)
                      go_simp
                      try (with_reducible rfl)
                    try simp only [Act.put, List.getElem_toArray, List.getElem_cons_zero, List.getElem_cons_succ, List.setIfInBounds_toArray, List.set_cons_zero, List.set_cons_succ]
                    refine wpAnyH_take (i := 38) (v := ?_) rfl (by kernel_rfl) (by kernel_rfl) (by kernel_rfl) (fun _ _ _ h => h) (Or.inl ⟨by rfl, ?_⟩) (by assumption) ?_
                    rotate_left
                    · intro w hSw
                      (try dsimp only at hSw)
                      go_simp
                      try (with_reducible rfl)
                    try simp only [Act.put, List.getElem_toArray, List.getElem_cons_zero, List.getElem_cons_succ, List.setIfInBounds_toArray, List.set_cons_zero, List.set_cons_succ]
                    clear e5 e6 e7 e8 e9
                    refine wpAnyH_done (by kernel_rfl) ?_ _
                    go_wp2
                    go_roundw
                    case rel => exact ⟨j + 1, by have := HJ.out; omega, by first | rfl | (rw [HJW.out]) | go_num, Lib.hid ⟨q + 1, by rw [← HWQ.out]; rfl⟩⟩
                    case measure => (try rw [HJW.out]); have := HJ.out; simp [intOf]; omega
                · have p1 : ¬ ((j : Int) < (i : Int)) := by omega
                  have HT8 := Lib.hid (HT7.out.later (below_drS w7 q))
                  obtain ⟨w8, hw8⟩ : ∃ w, w7.drewN q = w := ⟨_, rfl⟩
                  rw [hw8] at HT8 ⊢
                  have HP := Lib.hid ((HT8.out.later ((Below.refl _ _).alloc (Nat.le_refl _) (.cells (cel .i64 [-1, -2]).toArray 3))).pick1 (n := 2) (c := 2) (ms := [-1, -2]) rfl (Rd.newK .i64 w8 [-1, -2] 3 (0, 0)) (by omega) (L := []) (N := 0) (.inl ⟨none_12, rfl, rfl⟩) rfl)
                  clear hj hji hwx hw8
                  go_wp2_with fail
                  refine HP.out.mono ?_
                  rintro e w9 ⟨A9, c9, rfl, -, ht9, -⟩
                  have HB9 := Lib.hid ht9.bel
                  clear ht9 HP
                  go_wp2_with fail
                  refine (wakesS17_any _).mono ?_
                  rintro e w10 ⟨rfl, hb⟩
                  have HFIN := Lib.hid (HB9.out.trans (hb.mono HB9.out.size))
                  clear hb
                  go_wp2
                  go_ret
                  exact ⟨rfl, HFIN.out⟩
end Go.Proofs.Ytffofgockddpiaa
