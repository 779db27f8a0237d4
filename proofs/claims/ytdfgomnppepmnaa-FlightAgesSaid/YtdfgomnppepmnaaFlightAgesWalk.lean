/-
  The walk of FlightAges.
-/
import Derived.Test.YtdfgomnppepmnaaFlRow
import Derived.Test.YtdfgomnppepmnaaMinMax
import Derived.Test.YtdfgomnppepmnaaWithin
import Derived.Deep.LoopGhost
import Derived.Deep.CutBlock
import Derived.Deep.DeepCutAuto
namespace Go.Proofs.Ytdfgomnppepmnaa
open Go.RowKit

theorem quiet_eq4 {P : Program} {f : Nat} {args : Array Value} {w : World} {n : Nat} {v : Value} (h : Calls P f args (w.drewN n) fun e w' => e = .returned v ∧ w.drewN n = w') :
    Calls P f args (w.drewN n) fun e w'' => e = .returned v ∧ ∃ m, w'' = w.drewN m := Calls.quiet_of_same (h.mono fun _ _ ⟨h1, h2⟩ => ⟨h1, h2.symm⟩)

theorem noneQ_iff (ps : List Qd) (n : Int) : NoneQ ps n ↔ ∀ q ∈ ps, q.n ≠ n := by
  constructor
  · intro h q hq
    obtain ⟨i, hi, rfl⟩ := List.getElem_of_mem hq
    have := h i hi
    simpa [List.getD, hi] using this
  · intro h j hj
    have := h (ps[j]) (List.getElem_mem hj)
    simpa [List.getD, hj] using this
theorem noneQ_stay {ps : List Qd} {n : Int} (h : NoneQ ps n) (d : Int) : NoneQ (stayQ ps d) n :=
  (noneQ_iff _ _).2 fun q hq => (noneQ_iff _ _).1 h q (List.mem_filter.1 hq).1
theorem late_stay (ps : List Qd) (d : Int) : lateQ (stayQ ps d) d = [] := by
  unfold lateQ stayQ
  rw [List.filter_filter]
  refine List.filter_eq_nil_iff.2 fun q _ => ?_
  by_cases h : q.a ≤ d <;> simp [h]
theorem stay_stay (ps : List Qd) (d : Int) : stayQ (stayQ ps d) d = stayQ ps d := by
  unfold stayQ
  rw [List.filter_filter]
  congr 1
  funext q
  by_cases h : q.a ≤ d <;> simp [h]
theorem late_plus (ps : List Qd) (d : Int) : (lateQ ps d).length + (stayQ ps d).length = ps.length := by
  induction ps with
  | nil => rfl
  | cons q ps ih =>
    unfold lateQ stayQ at ih ⊢
    by_cases h : q.a ≤ d
    · simp [h] at ih ⊢; omega
    · simp [h] at ih ⊢; omega

/-- The i-th that goes out. -/
def agesQ (xs : List Int) (i : Nat) : Qd := ⟨5 * (i : Int), i, (i : Int) + 1, xs.getD i 0 % 40⟩
def agesL (xs : List Int) (n : Nat) : List Qd := (List.range n).map (agesQ xs)
theorem agesL_len (xs : List Int) (n : Nat) : (agesL xs n).length = n := by simp [agesL]
theorem agesL_next (xs : List Int) (n : Nat) : agesL xs (n + 1) = agesL xs n ++ [agesQ xs n] := by simp [agesL, List.range_succ]
theorem agesL_get (xs : List Int) (n j : Nat) (h : j < n) : (agesL xs n).getD j qz = agesQ xs j := by simp [agesL, List.getD, h]
theorem agesL_none (xs : List Int) (n : Nat) : NoneQ (agesL xs n) (5 * (n : Int)) := fun j hj => by
  rw [agesL_len] at hj
  rw [agesL_get xs n j hj]
  show 5 * (j : Int) ≠ 5 * (n : Int)
  omega
theorem agesL_first (xs : List Int) (n k : Nat) (h : k < n) : FirstQ (agesL xs n) (5 * (k : Int)) k := ⟨by rw [agesL_len]; exact h, by rw [agesL_get xs n k h]; rfl, fun j hj => by
  rw [agesL_get xs n j (by omega)]
  show 5 * (j : Int) ≠ 5 * (k : Int)
  omega⟩
/-- What holds of those that are out behind the Take. -/
structure Aged (ps : List Qd) (n : Nat) : Prop where
  len : ps.length + min n 1 = n
  none : NoneQ ps 99
  a : ∀ j, j < ps.length → 0 ≤ (ps.getD j qz).a ∧ (ps.getD j qz).a ≤ 40
theorem aged_all (xs : List Int) (n : Nat) : ∀ q ∈ agesL xs n, q.n ≠ 99 ∧ 0 ≤ q.a ∧ q.a ≤ 40 := by
  intro q hq
  simp only [agesL, List.mem_map, List.mem_range] at hq
  obtain ⟨j, _, rfl⟩ := hq
  have h1 := Int.emod_nonneg (xs.getD j 0) (show (40 : Int) ≠ 0 by decide)
  have h2 := Int.emod_lt_of_pos (xs.getD j 0) (show (0 : Int) < 40 by decide)
  refine ⟨?_, h1, by show xs.getD j 0 % 40 ≤ 40; omega⟩
  show 5 * (j : Int) ≠ 99
  omega
theorem Aged.gone (xs : List Int) (n k : Nat) (h : k < n) : Aged (goneQ (agesL xs n) k) n := by
  have hm : ∀ q ∈ goneQ (agesL xs n) k, q ∈ agesL xs n := fun q hq => by
    rcases List.mem_append.1 hq with h1 | h1
    · exact List.mem_of_mem_take h1
    · exact List.mem_of_mem_drop h1
  refine ⟨by rw [goneQ_len (by rw [agesL_len]; exact h), agesL_len]; omega, (noneQ_iff _ _).2 fun q hq => (aged_all xs n q (hm q hq)).1, fun j hj => ?_⟩
  have := aged_all xs n _ (hm _ (List.getElem_mem hj))
  have e : (goneQ (agesL xs n) k).getD j qz = (goneQ (agesL xs n) k)[j] := by simp [List.getD, hj]
  rw [e]
  exact this.2
theorem Aged.nil : Aged [] 0 := ⟨rfl, fun j hj => by simp at hj, fun j hj => by simp at hj⟩

/-- At the first loop's head. -/
def AHead1 (W wr : World) (p : Nat) (xs : List Int) (i : Nat) : Prop := ∃ v, FlA tFl tOutP wr W.heap.size p v (agesL xs i) ∧ Below W.heap.size W wr
/-- Behind the Take. -/
def AHead2 (W wr : World) (p n : Nat) : Prop := ∃ v ps, FlA tFl tOutP wr W.heap.size p v ps ∧ Below W.heap.size W wr ∧ Aged ps n

set_option maxRecDepth 100000 in
set_option maxHeartbeats 2000000 in
theorem flightAges_walk (a0 : Option Addr) (l0 c0 : Nat) (x0 : List Int) (a1 a2 a3 : Int) (W : World) (h0 : ArgI .i64 8 W a0 l0 c0 x0) (_ : (Lit.int .i64 a1).wf = true) (_ : (Lit.int .i64 a2).wf = true) (_ : (Lit.int .i64 a3).wf = true) :
    Calls Try.prog 3 #[.slice a0 l0 c0, .int .i64 a1, .int .i64 a2, .int .i64 a3] W fun e W' => e = .returned (.bool true) ∧ Below W.heap.size W W' := by
  have k0 := h0.le
  have r0 := h0.reach
  have HA0 := Lib.hid h0
  have HNW := Lib.hid (newfl_any W)
  obtain ⟨p, hp⟩ : ∃ p, W.heap.size = p := ⟨_, rfl⟩
  rw [hp] at HNW
  have HP := Lib.hid hp
  have HW1 := Lib.hid (fun w => within_any a1 40 w (by omega) (by omega))
  have HW2 := Lib.hid (fun w => within_any a2 20 w (by omega) (by omega))
  have n1 : 0 ≤ a1 % 40 ∧ a1 % 40 < 40 := ⟨Int.emod_nonneg _ (by omega), Int.emod_lt_of_pos _ (by omega)⟩
  have n2 : 0 ≤ a2 % 20 ∧ a2 % 20 < 20 := ⟨Int.emod_nonneg _ (by omega), Int.emod_lt_of_pos _ (by omega)⟩
  obtain ⟨NOW, hNOW⟩ : ∃ M, a1 % 40 = M := ⟨_, rfl⟩
  obtain ⟨WT, hWT⟩ : ∃ M, a2 % 20 = M := ⟨_, rfl⟩
  rw [hNOW] at HW1 n1
  rw [hWT] at HW2 n2
  have HN1 := Lib.hid n1
  have HN2 := Lib.hid n2
  have hmn := run_min2 (l0 : Int) 10 _ rfl
  obtain ⟨n, hn⟩ : ∃ n : Nat, min (l0 : Int) 10 = n := ⟨(min (l0 : Int) 10).toNat, by omega⟩
  rw [hn] at hmn
  have HN := Lib.hid (show n ≤ l0 ∧ n ≤ 10 ∧ (n = l0 ∨ n = 10) by omega)
  clear h0 hp n1 n2 hNOW hWT hn
  go_enter Try.func3, Try.ntmps3
  go_wp2_with fail
  refine HNW.out.mono ?_
  rintro e w1 ⟨rfl, h1, b1, -⟩
  have H0 : Hid (AHead1 W w1 p x0 0) := Lib.hid ⟨_, by rw [HP.out]; exact h1, by rw [HP.out]; exact b1⟩
  clear h1 b1 HNW
  go_wp2_with fail
  refine (HW1.out _).mono ?_
  rintro e w2 ⟨rfl, rfl⟩
  go_wp2_with fail
  refine (HW2.out _).mono ?_
  rintro e w2 ⟨rfl, rfl⟩
  go_wp2_with fail
  clear HW1 HW2 hmn
  go_loopw [11] (fun iv wr => ∃ (i : Nat), i ≤ n ∧ iv = .int .i64 i ∧ Hid (AHead1 W wr p x0 i)) (fun iv _ => n - (intOf iv).toNat)
  case atStart => exact ⟨0, by omega, rfl, H0⟩
  case round =>
    clear H0
    obtain ⟨i, hi, rfl, hhd⟩ := hrel
    by_cases hin : i < n
    · obtain ⟨v, hfl, hbl⟩ := hhd.out
      clear hhd
      have hN := HN.out
      obtain ⟨b0, o0, rfl, y0⟩ := HA0.out.cellAt2 hbl i (by omega)
      obtain ⟨x, hx⟩ : ∃ x, x0.getD i 0 = x := ⟨_, rfl⟩
      rw [hx] at y0
      have HWX := Lib.hid (fun w => within_any x 40 w (by omega) (by omega))
      have i0 : (i : Int) < (l0 : Int) := by omega
      have i1 : (i : Int) < (n : Int) := by omega
      have i2 : (0 : Int) ≤ (i : Int) := by omega
      obtain ⟨U, hU⟩ : ∃ U, x % 40 = U := ⟨_, rfl⟩
      rw [hU] at HWX
      have hq : agesQ x0 i = ⟨5 * (i : Int), (i : Int), (i : Int) + 1, U⟩ := by unfold agesQ; rw [hx, hU]
      have HADD := Lib.hid (fladd_yes hfl (5 * (i : Int)) (i : Int) ((i : Int) + 1) U (agesL_none x0 i) (by rw [agesL_len]; omega))
      rw [← hq, ← agesL_next] at HADD
      have HFL := Lib.hid hfl
      have HBL := Lib.hid hbl
      have HIN := Lib.hid (And.intro hin hN)
      have HIW := Lib.hid (show wrap64 ((i : Int) + 1) = ((i + 1 : Nat) : Int) from wrap_q (by omega) (by omega) (by omega))
      clear hN hx hU hq hfl hbl hi hin
      go_wp2_with fail
      refine (HWX.out _).mono ?_
      rintro e w3 ⟨rfl, rfl⟩
      clear HWX
      go_wp2_with fail
      refine HADD.out.mono ?_
      rintro e w4 ⟨rfl, v4, h4, s4⟩
      have H4 : Hid (AHead1 W w4 p x0 (i + 1)) := Lib.hid ⟨_, h4, HBL.out.trans (HFL.out.bel s4 (Nat.le_refl _))⟩
      clear h4 s4 HADD HFL
      go_wp2
      go_roundw
      case rel => exact ⟨i + 1, by have := HIN.out.1; omega, by first | rfl | (rw [HIW.out]) | go_num, H4⟩
      case measure => have := HIN.out.1; simp [intOf]; omega
    · have : i = n := by omega
      subst this
      have j1 : ¬ ((i : Int) < (i : Int)) := by omega
      clear hi hin
      go_upto_if 53 with (fail)
      clear j1
      go_cut [] (fun wx => ∃ wz, wz = wx ∧ Hid (AHead2 W wz p i))
      case first =>
        obtain ⟨v, hfl, hbl⟩ := hhd.out
        clear hhd
        by_cases hi0 : 0 < i
        · have hN := HN.out
          have g0 : (i : Int) > 0 := by omega
          obtain ⟨K, hK⟩ : ∃ y : Nat, a3 % (i : Int) = y := ⟨(a3 % (i : Int)).toNat, by have := Int.emod_nonneg a3 (show (i : Int) ≠ 0 by omega); omega⟩
          have hKi : K < i := by have := Int.emod_lt_of_pos a3 (show 0 < (i : Int) by omega); omega
          have HWI := Lib.hid (fun w => within_any a3 (i : Int) w (by omega) (by omega))
          rw [hK] at HWI
          obtain ⟨x, hx⟩ : ∃ x, x0.getD K 0 = x := ⟨_, rfl⟩
          obtain ⟨U, hU⟩ : ∃ U, x % 40 = U := ⟨_, rfl⟩
          have hq : (agesL x0 i).getD K qz = ⟨5 * (K : Int), (K : Int), (K : Int) + 1, U⟩ := by rw [agesL_get x0 i K hKi]; unfold agesQ; rw [hx, hU]
          have HTK := Lib.hid (fltake_yes hfl (5 * (K : Int)) K (agesL_first x0 i K hKi) _ hq (by rw [agesL_len]; omega))
          have HFL := Lib.hid hfl
          have HBL := Lib.hid hbl
          obtain ⟨b0, o0, rfl, y0⟩ := HA0.out.cellAt2 hbl K (by omega)
          have HK := Lib.hid (show K < l0 ∧ K < i ∧ i ≤ 10 from ⟨by omega, hKi, hN.2.1⟩)
          have HX := Lib.hid hx
          have HU := Lib.hid hU
          have i0 : (K : Int) < (l0 : Int) := by omega
          have i2 : (0 : Int) ≤ (K : Int) := by omega
          clear hN hK hKi hx hU hq hfl hbl hi0 y0
          go_wp2_with fail
          refine (HWI.out _).mono ?_
          rintro e w3 ⟨rfl, rfl⟩
          clear HWI
          go_wp2_with fail
          refine HTK.out.mono ?_
          rintro e w4 ⟨rfl, v4, h4, s4⟩
          have hb4 := HBL.out.trans (HFL.out.bel s4 (Nat.le_refl _))
          obtain ⟨z, hz⟩ : ∃ z, w4.heap.size = z := ⟨_, rfl⟩
          obtain ⟨w5', hw5⟩ : ∃ w, w4.alloc (.cells #[.int .i64 (5 * (K : Int)), .int .i64 (K : Int), .int .i64 ((K : Int) + 1), .int .i64 U] tOutP) = w := ⟨_, rfl⟩
          have hb45 : Below w4.heap.size w4 w5' := by rw [← hw5]; exact (Below.refl _ _).alloc (Nat.le_refl _) _
          have H5 : Hid (AHead2 W w5' p i) := Lib.hid ⟨_, _, h4.later hb45, hb4.trans (hb45.mono hb4.size), Aged.gone x0 i K HK.out.2.1⟩
          have y0 := HA0.out.cellAt3 (hb4.trans (hb45.mono hb4.size)) K HK.out.1
          rw [HX.out] at y0
          have hbx : Bx w5' z ⟨5 * (K : Int), (K : Int), (K : Int) + 1, U⟩ := by rw [← hw5, ← hz]; exact Bx.new _ _ _ _ _ _
          obtain ⟨q0, q1, q2, q3⟩ := hbx
          simp only [] at q0 q1 q2 q3
          have HWX := Lib.hid (fun w => within_any x 40 w (by omega) (by omega))
          rw [HU.out] at HWX
          clear h4 s4 hb4 hb45 HTK HFL HBL
          go_wp2_with fail
          go_quiet ((go_at_call 7; exact quiet_eq4 (HWX.out _)))
          have H6 : Hid (AHead2 W (w5'.drewN nq) p i) := Lib.hid (by obtain ⟨v, ps, h1, h2, h3⟩ := H5.out; exact ⟨v, ps, h1.drewN nq, below_drewN' h2 nq, h3⟩)
          go_wp2
          go_meet
          exact ⟨_, rfl, H6⟩
        · have : i = 0 := by omega
          subst this
          have H5 : Hid (AHead2 W wr p 0) := Lib.hid ⟨_, [], hfl, hbl, Aged.nil⟩
          clear hi0 hfl hbl
          go_wp2_with fail
          go_meet
          exact ⟨_, rfl, H5⟩
      case rest =>
      obtain ⟨wa, rfl, hhd2⟩ := hcut
      obtain ⟨v, ps, hfl, hbl, hag⟩ := hhd2.out
      clear hhd2 hhd
      obtain ⟨m, hm⟩ : ∃ m, ps.length = m := ⟨_, rfl⟩
      have HM := Lib.hid hm
      have hag1 := hag.len
      rw [hm] at hag1
      have hN := HN.out
      have HML := Lib.hid (show m ≤ 10 ∧ m + min i 1 = i by omega)
      have HAG := Lib.hid hag
      have HFL := Lib.hid hfl
      have HBL := Lib.hid hbl
      have HALL := Lib.hid (flall_any hfl (by omega))
      rw [hm] at HALL
      obtain ⟨d, hd⟩ : ∃ d, d = NOW - WT := ⟨_, rfl⟩
      have HD := Lib.hid hd
      clear hag1 hN hag hfl hbl hm hd
      go_wp2_with fail
      refine HALL.out.mono ?_
      rintro e w1' ⟨A4, c4, rfl, ho4, b4⟩
      have HO4 := Lib.hid ho4
      have HB4 := Lib.hid b4
      have HST := Lib.hid (show ∀ k, k < m → lateQ (ps.take (k + 1)) d = lateQ (ps.take k) d ++ (if (ps.getD k qz).a ≤ d then [ps.getD k qz] else []) ∧ stayQ (ps.take (k + 1)) d = stayQ (ps.take k) d ++ (if (ps.getD k qz).a ≤ d then [] else [ps.getD k qz]) ∧ (lateQ (ps.take k) d).length ≤ 10 ∧ (stayQ (ps.take k) d).length ≤ 10 from fun k hk => ⟨lateQ_next ps d k (by rw [HM.out]; exact hk), stayQ_next ps d k (by rw [HM.out]; exact hk), by have := lateQ_len ps d k; have := HM.out; have := HML.out.1; omega, by have := stayQ_len ps d k; have := HM.out; have := HML.out.1; omega⟩)
      have HEND := Lib.hid (show ps.take m = ps by rw [← HM.out, List.take_length])
      clear ho4 b4 HALL
      go_wp2
      go_loopw [15, 16, 92] (fun gv lv iv wr => ∃ (k : Nat) (A1 : Option Addr) (m1 c1 : Nat) (A2 : Option Addr) (m2 c2 : Nat), k ≤ m ∧ iv = .int .i64 k ∧ gv = .slice A1 m1 c1 ∧ lv = .slice A2 m2 c2 ∧ Hid (TwoQ tOutP w1' wr (.slice A1 m1 c1) (lateQ (ps.take k) d) (.slice A2 m2 c2) (stayQ (ps.take k) d))) (fun _ _ iv _ => m - (intOf iv).toNat)
      case atStart => exact ⟨0, none, 0, 0, none, 0, 0, by omega, rfl, rfl, rfl, Lib.hid (TwoQ.start _ _)⟩
      case round =>
        obtain ⟨k, A1, m1, c1, A2, m2, c2, hk, rfl, rfl, rfl, hT⟩ := hrel
        by_cases hkm : k < m
        · have ho := HO4.out.later hT.out.bel
          obtain ⟨g, rfl, _⟩ := ho.at (by omega)
          obtain ⟨y1, y2, y3, y4⟩ := ho.cells k hkm
          obtain ⟨hs1, hs2, hl1, hl2⟩ := HST.out k hkm
          have hab := HAG.out.a k (by rw [HM.out]; exact hkm)
          obtain ⟨⟨x, y, z, u⟩, hxy⟩ : ∃ q, ps.getD k qz = q := ⟨_, rfl⟩
          rw [hxy] at y1 y2 y3 y4 hs1 hs2 hab
          simp only [] at y1 y2 y3 y4 hs1 hs2 hab
          have hT1 := hT.out.alloc (.cells #[.int .i64 x, .int .i64 y, .int .i64 z, .int .i64 u] tOutP)
          have bx0 : Bx (wr.alloc (.cells #[.int .i64 x, .int .i64 y, .int .i64 z, .int .i64 u] tOutP)) wr.heap.size ⟨x, y, z, u⟩ := Bx.new _ _ _ _ _ _
          obtain ⟨q0, q1, q2, q3⟩ := bx0
          simp only [] at q0 q1 q2 q3
          have i1 : (k : Int) < (m : Int) := by omega
          have i2 : (0 : Int) ≤ (k : Int) := by omega
          obtain ⟨E, hE⟩ : ∃ E, u + WT = E := ⟨_, rfl⟩
          have hn2 := HN2.out
          have HWW := Lib.hid (show wrap64 (u + WT) = E from wrap_q hE (by omega) (by omega))
          have hd := HD.out
          have HNX := Lib.hid (show k + 1 ≤ m by omega)
          have HI := Lib.hid hkm
          have hml := HML.out.1
          have HIW := Lib.hid (show wrap64 ((k : Int) + 1) = ((k + 1 : Nat) : Int) from wrap_q (by omega) (by omega) (by omega))
          by_cases hle : u ≤ d
          · rw [if_pos hle] at hs1 hs2
            rw [List.append_nil] at hs2
            obtain ⟨A', c', w', hr, hT2, _⟩ := hT1.app (P := Try.prog) 31 31 _ Try.underlying31 info_fo rfl m1 hT.out.o1.len (by rw [← hT.out.o1.len]; omega) ⟨x, y, z, u⟩
            rw [World.size_alloc] at hr
            rw [← hs1, ← hs2] at hT2
            have HT2 := Lib.hid hT2
            have e1 : E ≤ NOW := by omega
            clear hs1 hs2 hl1 hl2 hT2 hT1 hT hle hxy hk hkm hab hn2 hd hE hml ho
            have hww := HWW.out
            go_wp2_with (at_builtin; refine wpList_app_r rfl _ _ 31 31 rfl _ _ rfl rfl hr ?_)
            clear hr
            go_roundw
            case rel => exact ⟨k + 1, A', m1 + 1, c', A2, m2, c2, HNX.out, by rw [HIW.out], rfl, rfl, HT2⟩
            case measure => rw [HIW.out]; have := HI.out; clear hww; simp [intOf]; omega
          · rw [if_neg hle] at hs1 hs2
            rw [List.append_nil] at hs1
            obtain ⟨A', c', w', hr, hT2, _⟩ := hT1.swap.app (P := Try.prog) 31 31 _ Try.underlying31 info_fo rfl m2 hT.out.o2.len (by rw [← hT.out.o2.len]; omega) ⟨x, y, z, u⟩
            rw [World.size_alloc] at hr
            rw [← hs1, ← hs2] at hT2
            have HT2 := Lib.hid hT2.swap
            have e1 : ¬ (E ≤ NOW) := by omega
            clear hs1 hs2 hl1 hl2 hT2 hT1 hT hle hxy hk hkm hab hn2 hd hE hml ho
            have hww := HWW.out
            go_wp2_with (at_builtin; refine wpList_app_r rfl _ _ 31 31 rfl _ _ rfl rfl hr ?_)
            clear hr
            go_roundw
            case rel => exact ⟨k + 1, A1, m1, c1, A', m2 + 1, c', HNX.out, by rw [HIW.out], rfl, rfl, HT2⟩
            case measure => rw [HIW.out]; have := HI.out; clear hww; simp [intOf]; omega
        · have : k = m := by omega
          subst this
          have hT' := hT.out
          rw [HEND.out] at hT'
          have j1 : ¬ ((k : Int) < (k : Int)) := by omega
          have hR := FR.of (HFL.out.later HB4.out) (HBL.out.trans (HB4.out.mono HBL.out.size)) hT'
          have hm1 : (lateQ ps d).length = m1 := hT'.o1.len
          have hm2 : (stayQ ps d).length = m2 := hT'.o2.len
          have hpl := late_plus ps d
          rw [hm1, hm2, HM.out] at hpl
          have hml := HML.out
          have HMM := Lib.hid (show m1 ≤ 10 ∧ m2 ≤ 10 by omega)
          have HSUM := Lib.hid (show wrap64 ((m1 : Int) + (m2 : Int)) = (k : Int) from wrap_q (by omega) (by omega) (by omega))
          obtain ⟨MN, hMN⟩ : ∃ MN, min (i : Int) 1 = MN := ⟨_, rfl⟩
          have hmn1 := run_min2 (i : Int) 1 _ hMN.symm
          have HSUB := Lib.hid (show wrap64 ((i : Int) - MN) = (k : Int) from wrap_q (by omega) (by omega) (by omega))
          have HR := Lib.hid hR
          have HLT := Lib.hid (fllate_any hR.fl NOW WT d (by have := HN1.out; omega) (by have := HN2.out; omega) HD.out (by rw [HM.out]; omega))
          have HN99 := Lib.hid (noneQ_stay HAG.out.none d)
          have HM1 := Lib.hid hm1
          have HM2 := Lib.hid hm2
          clear hT' hT hk hkm hR hm1 hm2 hpl hml hMN HFL HB4 HO4 HAG HST
          go_wp2_with fail
          refine HLT.out.mono ?_
          rintro e w5 ⟨A5, m5, c5, rfl, ho5, v5, h5, s5⟩
          have hR5 := HR.out.turn h5 s5
          obtain rfl : m5 = m1 := by rw [← ho5.len, HM1.out]
          have HSM := Lib.hid (sameQ_any ho5 hR5.o1 (by have := HMM.out; omega))
          have HR5 := Lib.hid hR5
          clear ho5 h5 s5 hR5 HLT HR
          go_wp2_with fail
          refine HSM.out.mono ?_
          rintro e w6 ⟨rfl, nd, rfl⟩
          have HR6 := Lib.hid (HR5.out.drewN nd)
          have HA6 := Lib.hid (flall_any HR6.out.fl (by rw [HM2.out]; have := HMM.out; omega))
          rw [HM2.out] at HA6
          clear HSM HR5
          go_wp2_with fail
          refine HA6.out.mono ?_
          rintro e w7 ⟨A7, c7, rfl, ho7, b7⟩
          have hR7 := HR6.out.later b7
          have HSM := Lib.hid (sameQ_any ho7 hR7.o2 (by have := HMM.out; omega))
          have HR7 := Lib.hid hR7
          clear ho7 b7 hR7 HA6 HR6
          go_wp2_with fail
          refine HSM.out.mono ?_
          rintro e w8 ⟨rfl, nd8, rfl⟩
          have HR8 := Lib.hid (HR7.out.drewN nd8)
          have hlt := fllate_any HR8.out.fl NOW WT d (by have := HN1.out; omega) (by have := HN2.out; omega) HD.out (by rw [HM2.out]; have := HMM.out; omega)
          rw [late_stay, stay_stay] at hlt
          have HLT := Lib.hid hlt
          clear HSM HR7 hlt
          go_wp2_with fail
          refine HLT.out.mono ?_
          rintro e w9 ⟨A9, m9, c9, rfl, ho9, v9, h9, s9⟩
          obtain rfl : m9 = 0 := ho9.len.symm
          have HR9 := Lib.hid (HR8.out.turn h9 s9)
          have hsum := HSUM.out
          have hsub := HSUB.out
          have HA9 := Lib.hid (flall_any HR9.out.fl (by rw [HM2.out]; have := HMM.out; omega))
          rw [HM2.out] at HA9
          clear ho9 h9 s9 HLT HR8
          go_wp2_with fail
          refine HA9.out.mono ?_
          rintro e wl ⟨Al, cl, rfl, hol, bl⟩
          have HOL : Hid (∃ ls, OwnQ tOutP wl w9.heap.size (.slice Al m2 cl) ls) := Lib.hid ⟨_, hol⟩
          have HBL9 := Lib.hid bl
          clear hol bl HA9 hsum hsub hmn1 HSUM HSUB
          go_wp2_with fail
          go_loopw [149] (fun iv wr => ∃ (k2 : Nat), k2 ≤ m2 ∧ iv = .int .i64 k2 ∧ Hid (∃ ls, OwnQ tOutP wr w9.heap.size (.slice Al m2 cl) ls) ∧ Hid (Below w9.heap.size w9 wr)) (fun iv _ => m2 - (intOf iv).toNat)
          case atStart => exact ⟨0, by omega, rfl, HOL, HBL9⟩
          case round =>
            clear HOL HBL9
            obtain ⟨k2, hk2, rfl, hol, hb9⟩ := hrel
            by_cases hkm : k2 < m2
            · obtain ⟨ls, ho⟩ := hol.out
              obtain ⟨gl, rfl, hge, _⟩ := ho.at (by omega)
              have c0' := (ho.cells k2 hkm).1
              have f0' := ho.fr (k2 * 4)
              have i1 : (k2 : Int) < (m2 : Int) := by omega
              have i2 : (0 : Int) ≤ (k2 : Int) := by omega
              have HO2 : Hid (∃ ls, OwnQ tOutP (wr.setCell ⟨gl, k2 * 4, none⟩ (.int .i64 99)) w9.heap.size (.slice (some ⟨gl, 0, none⟩) m2 cl) ls) := Lib.hid ⟨_, ho.store k2 hkm 99⟩
              have HB2 := Lib.hid (hb9.out.trans ((Trn.of_grown (setCell_one wr gl (k2 * 4) (.int .i64 99))).below hb9.out.size (fun k hk => by have := Option.some.inj hk; omega)))
              have HNX := Lib.hid (show k2 + 1 ≤ m2 ∧ k2 < m2 by omega)
              have HIW := Lib.hid (show wrap64 ((k2 : Int) + 1) = ((k2 + 1 : Nat) : Int) from wrap_q (by omega) (by have := HMM.out; omega) (by have := HMM.out; omega))
              clear ho hol hb9 hkm hk2
              go_wp2
              go_roundw
              case rel => exact ⟨k2 + 1, HNX.out.1, by rw [HIW.out], HO2, HB2⟩
              case measure => rw [HIW.out]; have := HNX.out.2; simp [intOf]; omega
            · have : k2 = m2 := by omega
              subst this
              have j1 : ¬ ((k2 : Int) < (k2 : Int)) := by omega
              have HRT := Lib.hid (HR9.out.later hb9.out)
              have HTK := Lib.hid (fltake_no HRT.out.fl 99 HN99.out (by rw [HM2.out]; have := HMM.out; omega))
              clear hol hb9 hk2 hkm
              go_wp2_with fail
              refine HTK.out.mono ?_
              rintro e wt ⟨rfl, bt⟩
              have HRU := Lib.hid ((HRT.out.later bt).later ((Below.refl _ _).alloc (Nat.le_refl _) (.cells #[.int .i64 0, .int .i64 0, .int .i64 0, .int .i64 0] tOutP)))
              have HDR := Lib.hid (fldrop_any HRU.out.fl (by rw [HM2.out]; have := HMM.out; omega))
              rw [HM2.out] at HDR
              clear bt HTK HRT
              go_wp2_with fail
              refine HDR.out.mono ?_
              rintro e wu ⟨Au, cu, rfl, hou, hu, su⟩
              have hRU := HRU.out.turn hu su
              have HSM := Lib.hid (sameQ_any hou hRU.o2 (by have := HMM.out; omega))
              have HRV := Lib.hid hRU
              clear hou hu su hRU HDR HRU
              go_wp2_with fail
              refine HSM.out.mono ?_
              rintro e wv ⟨rfl, ndv, rfl⟩
              have HRW := Lib.hid (HRV.out.drewN ndv)
              have hln := fllen_any HRW.out.fl
              have hdr := fldrop_any HRW.out.fl (by simp)
              simp only [List.length_nil] at hln hdr
              have HLN := Lib.hid hln
              have HDR := Lib.hid hdr
              clear hln hdr HSM HRV
              go_wp2_with fail
              refine HLN.out.mono ?_
              rintro e ww ⟨rfl, rfl⟩
              go_wp2_with fail
              refine HDR.out.mono ?_
              rintro e wx ⟨Ax, cx, rfl, hox, hx, sx⟩
              have HBX := Lib.hid (HRW.out.turn hx sx).bel
              clear hox hx sx HDR HRW HLN
              go_wp2_with fail
              refine (wakesF_any _).mono ?_
              rintro e wy ⟨rfl, by_⟩
              have HBY := Lib.hid (HBX.out.trans (by_.mono HBX.out.size))
              clear by_
              go_wp2
              go_ret
              exact ⟨rfl, HBY.out⟩
end Go.Proofs.Ytdfgomnppepmnaa
