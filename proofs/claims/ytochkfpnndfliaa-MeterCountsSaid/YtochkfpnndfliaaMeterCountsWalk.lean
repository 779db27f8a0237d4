/-
  The walk of MeterCounts.
-/
import Derived.Test.YtochkfpnndfliaaMeterSumsWalk
import Derived.Test.YtochkfpnndfliaaSameInt
import Derived.Deep.QuietTactic
import Derived.BigQuiet
import Derived.Deep.DeepCutAuto
import Derived.Deep.LoopGhost
namespace Go.Proofs.Ytochkfpnndfliaa
open Go.RowKit

theorem rd_all {w : World} {g : Nat} {cs : List Int} (hl : cs.length = 8) (h : w.rowIs g 3 8 (allF cs 8)) : Rd .i64 w (some ⟨g, 0, none⟩) cs := by
  refine .inr ⟨g, 0, rfl, fun i hi => ?_⟩
  rw [Nat.zero_add, h.cell (by omega), allF, if_pos (by omega)]
theorem all_at {w : World} {g : Nat} {cs : List Int} (h : w.rowIs g 3 8 (allF cs 8)) (i : Nat) (hi : i < 8) : w.cell? ⟨g, i, none⟩ = some (.int .i64 (cs.getD i 0)) := by
  rw [h.cell hi, allF, if_pos hi]
theorem all_set {w : World} {g : Nat} {cs : List Int} (hl : cs.length = 8) (h : w.rowIs g 3 8 (allF cs 8)) (k : Nat) (hk : k < 8) (x : Int) : (w.setCell ⟨g, k, none⟩ (.int .i64 x)).rowIs g 3 8 (allF (cs.set k x) 8) := by
  refine (h.set k (.int .i64 x)).congr fun i hi => ?_
  unfold allF
  rw [if_pos hi, if_pos hi, set_getD _ _ _ _ (by omega)]
  by_cases e : i = k
  · rw [if_pos e, if_pos e]
  · rw [if_neg e, if_neg e]

/-- Each counter is from 0 to m. -/
def Small (cs : List Int) (m : Int) : Prop := ∀ i, 0 ≤ cs.getD i 0 ∧ cs.getD i 0 ≤ m
theorem small_zero : Small [0,0,0,0,0,0,0,0] 0 := by
  intro i
  rcases Nat.lt_or_ge i 8 with h | h
  · match i, h with
    | 0, _ | 1, _ | 2, _ | 3, _ | 4, _ | 5, _ | 6, _ | 7, _ => decide
  · rw [show ([0,0,0,0,0,0,0,0] : List Int).getD i 0 = 0 from by simp [List.getD, h]]; omega
theorem Small.more {cs : List Int} {m m' : Int} (h : Small cs m) (hm : m ≤ m') : Small cs m' := fun i => ⟨(h i).1, Int.le_trans (h i).2 hm⟩
theorem Small.set {cs : List Int} {m n : Int} (h : Small cs m) (hl : cs.length = 8) (k : Nat) (hk : k < 8) (h0 : 0 ≤ n) (h1 : n ≤ 2147483648) : Small (cs.set k (cs.getD k 0 + n)) (m + 2147483648) := by
  intro i
  rw [set_getD _ _ _ _ (by omega)]
  have a := h i
  have b := h k
  by_cases e : i = k
  · rw [if_pos e]; omega
  · rw [if_neg e]; omega
theorem within_same (v n : Int) (w : World) (h1 : 1 ≤ n) (h2 : n ≤ 4611686018427387904) :
    Calls Try.prog 11 #[.int .i64 v, .int .i64 n] w fun e w' => e = .returned (.int .i64 (v % n)) ∧ w' = w := (within_any v n w h1 h2).mono fun _ _ ⟨a, b⟩ => ⟨a, b.symm⟩
/-- What a round makes of the counters that are wanted, and what it then tells. -/
def Step (M N : Int) (cs cs' : List Int) (t : Int) : Prop :=
  (∃ k : Nat, M = k ∧ k < 8 ∧ 0 ≤ N ∧ N < 2147483648 ∧ cs' = cs.set k (cs.getD k 0 + N) ∧ t = cs.getD k 0 + N) ∨ ((M < 0 ∨ 8 ≤ M ∨ N < 0 ∨ 2147483647 < N) ∧ cs' = cs ∧ t = 0)
/-- The counter M, or 0. -/
def Got (M : Int) (cs : List Int) (t : Int) : Prop := (∃ k : Nat, M = k ∧ k < 8 ∧ t = cs.getD k 0) ∨ ((M < 0 ∨ 8 ≤ M) ∧ t = 0)
theorem Step.len {M N : Int} {cs cs' : List Int} {t : Int} (h : Step M N cs cs' t) (hl : cs.length = 8) : cs'.length = 8 := by
  rcases h with ⟨k, _, _, _, _, rfl, _⟩ | ⟨_, rfl, _⟩
  · rw [List.length_set]; exact hl
  · exact hl
theorem Step.small {M N : Int} {cs cs' : List Int} {t m : Int} (h : Step M N cs cs' t) (hl : cs.length = 8) (hs : Small cs m) : Small cs' (m + 2147483648) := by
  rcases h with ⟨k, _, hk, h0, h1, rfl, _⟩ | ⟨_, rfl, _⟩
  · exact hs.set hl k hk h0 (by omega)
  · exact hs.more (by omega)
theorem add_step (M N : Int) (b : Nat) (cs cs' : List Int) (t : Int) (w : World) (h : Step M N cs cs' t) (hm : Met w b cs) (hs : Small cs 4611686018427387904) :
    Calls Try.prog 17 #[.pointer (some ⟨b, 0, none⟩), .int .i64 M, .int .i64 N] w fun e w' => e = .returned (.int .i64 t) ∧ Met w' b cs' ∧ w.grownBy w' (some b) := by
  rcases h with ⟨k, rfl, hk, h0, h1, rfl, rfl⟩ | ⟨h, rfl, rfl⟩
  · exact add_yes b cs k N w hm hk h0 (by omega) (hs k).1 (hs k).2
  · refine (add_no b M N w h).mono ?_
    rintro e w' ⟨rfl, rfl⟩
    exact ⟨rfl, hm, World.grownBy.refl _ _⟩
theorem get_got (M : Int) (b : Nat) (cs : List Int) (t : Int) (w : World) (h : Got M cs t) (hm : Met w b cs) :
    Calls Try.prog 18 #[.pointer (some ⟨b, 0, none⟩), .int .i64 M] w fun e w' => e = .returned (.int .i64 t) ∧ Met w' b cs ∧ w.grownBy w' (some b) := by
  rcases h with ⟨k, rfl, hk, rfl⟩ | ⟨h, rfl⟩
  · exact get_yes b cs k w hm hk
  · refine (get_no b M w h).mono ?_
    rintro e w' ⟨rfl, rfl⟩
    exact ⟨rfl, hm, World.grownBy.refl _ _⟩

def zeros : List Int := [0,0,0,0,0,0,0,0]

set_option maxRecDepth 100000 in
set_option maxHeartbeats 8000000 in
theorem meterCounts_walk (A : Option Addr) (n c : Nat) (xs : List Int) (B : Option Addr) (m d : Nat) (ys : List Int) (a2 : Int) (w : World) (ha : ArgI .i64 8 w A n c xs) (hb : ArgI .i64 8 w B m d ys) (_ : (Lit.int .i64 a2).wf = true) :
    Calls Try.prog 7 #[.slice A n c, .slice B m d, .int .i64 a2] w fun e w' => e = .returned (.bool true) ∧ Below w.heap.size w w' := by
  have r1 := ha.reach
  have r2 := hb.reach
  have l1 := ha.le
  have l2 := hb.le
  have HA := Lib.hid ha
  have HB := Lib.hid hb
  clear ha hb
  obtain ⟨i0, hi0, hz0, hz1, hz2⟩ := info_parts info_int
  have hmk : ∀ w, (Instr.makeSlice 37 (.int .i64 8) (.int .i64 8)).run Try.prog w = .ok (.slice (some ⟨w.heap.size, 0, none⟩) 8 8) (w.alloc (.cells (madeCells #[.int .i64 0] 8) 3)) := fun w => by
    have := run_make (P := Try.prog) w 37 3 i0 (.int .i64 0) Try.underlying37 hi0 hz0 .i64 .i64 8 8 (by omega) (by omega) (by rw [hz2]; omega) (by omega)
    rw [hz1] at this
    exact this
  have HMK := Lib.hid hmk
  clear hi0 hz0 hz1 hz2 hmk
  go_enter Try.func7, Try.ntmps7
  go_wp2_with fail
  refine (new_any w).mono ?_
  rintro e w1 ⟨rfl, h1, b1, z1⟩
  obtain ⟨b, hb⟩ : ∃ b, w.heap.size = b := ⟨_, rfl⟩
  rw [hb] at h1
  obtain ⟨g, hg⟩ : ∃ g, w1.heap.size = g := ⟨_, rfl⟩
  have hbg : b < g := by omega
  obtain ⟨W1, hW1⟩ : ∃ W1, w1.alloc (Obj.cells (madeCells #[Value.int IntKind.i64 0] 8) 3) = W1 := ⟨_, rfl⟩
  have H1 : Hid (Met W1 b zeros) := Lib.hid (by rw [← hW1]; exact h1.alloc _)
  have B1 : Hid (Below w.heap.size w W1) := Lib.hid (by rw [← hW1]; exact b1.alloc b1.size _)
  have R1 : Hid (W1.rowIs g 3 8 (allF zeros 8)) := Lib.hid (by
    rw [← hW1, ← hg]
    refine (World.rowIs_made w1 (.int .i64 0) 8 3).congr fun i hi => ?_
    match i, hi with
    | 0, _ | 1, _ | 2, _ | 3, _ | 4, _ | 5, _ | 6, _ | 7, _ => rfl)
  have HG := Lib.hid hg
  have HW := Lib.hid hW1
  have HBB := Lib.hid hb
  rw [hb]
  clear h1 b1 z1 hb hg hW1
  have hmk := HMK.out
  go_wp2_with fail
  clear hmk
  rw [HG.out, HW.out]
  clear HG HW
  have hlB : zeros.length = 8 := rfl
  go_loopg [8, 9] 24 (fun k s i wr => ∃ (j g : Nat) (cs : List Int), j ≤ n ∧ j ≤ m ∧ j + k = 24 ∧ i = .int .i64 (j : Nat) ∧ s = .slice (some ⟨g, 0, none⟩) 8 8 ∧ b < g ∧ Hid (Met wr b cs) ∧ Hid (wr.rowIs g 3 8 (allF cs 8)) ∧ Hid (Small cs (2147483648 * (j : Nat))) ∧ Hid (Below w.heap.size w wr))
  case atStart => exact ⟨0, g, zeros, by omega, by omega, by omega, rfl, rfl, hbg, H1, R1, Lib.hid small_zero, B1⟩
  case round =>
    clear H1 B1 R1 hbg
    obtain ⟨j, g, cs, hj, hj2, hj3, rfl, rfl, hbg, hm, hr, hs, hbl⟩ := hrel
    by_cases hlt : j < n ∧ j < m ∧ j < 24
    · obtain ⟨hlt1, hlt2, hlt3⟩ := hlt
      have q1 : (j : Int) < (n : Int) := by omega
      have q2 : (j : Int) < (m : Int) := by omega
      have q3 : (j : Int) < 24 := by omega
      have q4 : (0 : Int) ≤ (j : Int) := by omega
      obtain ⟨b1, off1, rfl, hc⟩ := (HA.out.rd.later hbl.out).some_ (by rw [HA.out.len]; omega)
      have c1 := hc j (by rw [HA.out.len]; exact hlt1)
      obtain ⟨b2, off2, rfl, hc2⟩ := (HB.out.rd.later hbl.out).some_ (by rw [HB.out.len]; omega)
      have c2 := hc2 j (by rw [HB.out.len]; exact hlt2)
      obtain ⟨x, hx⟩ : ∃ x, xs.getD j 0 = x := ⟨_, rfl⟩
      obtain ⟨y, hy⟩ : ∃ y, ys.getD j 0 = y := ⟨_, rfl⟩
      have wx : (Lit.int .i64 x).wf = true := HA.out.wf x (by rw [← hx]; simp [List.getD, HA.out.len, hlt1])
      have wy : (Lit.int .i64 y).wf = true := HB.out.wf y (by rw [← hy]; simp [List.getD, HB.out.len, hlt2])
      have wx2 := wf_i64 wx
      have wy2 := wf_i64 wy
      rw [hx] at c1
      rw [hy] at c2
      clear hx hc hy hc2 wx wy
      have x0 : 0 ≤ x % 10 := Int.emod_nonneg x (by decide)
      have x1 : x % 10 < 10 := Int.emod_lt_of_pos x (by decide)
      have y0 : 0 ≤ y % 1000 := Int.emod_nonneg y (by decide)
      have y1 : y % 1000 < 1000 := Int.emod_lt_of_pos y (by decide)
      have hw : IntKind.i64.wrap (x % 10 - 1) = x % 10 - 1 := IntWalk.i64_in (x % 10 - 1) (by omega)
      go_wp2_with fail
      go_quiet ((go_at_call 11; exact Calls.quiet_of_same (within_same _ _ _ (by omega) (by omega))))
      clear hw
      have hw1 : ∃ wz, wr.drewN nq = wz := ⟨_, rfl⟩
      obtain ⟨wz, hwz⟩ := hw1
      have c1' : wz.cell? ⟨b1, off1 + j, none⟩ = some (.int .i64 x) := by rw [← hwz]; exact c1
      have c2' : wz.cell? ⟨b2, off2 + j, none⟩ = some (.int .i64 y) := by rw [← hwz]; exact c2
      have hm' : Hid (Met wz b cs) := Lib.hid (by rw [← hwz]; exact hm.out.drewN nq)
      have hr' : Hid (wz.rowIs g 3 8 (allF cs 8)) := Lib.hid (by rw [← hwz]; exact hr.out)
      have hbl' : Hid (Below w.heap.size w wz) := Lib.hid (by rw [← hwz]; exact below_drewN' hbl.out nq)
      rw [hwz]
      clear hwz c1 c2 hm hr hbl
      go_upto_if 51 with (fail)
      go_cut [11] (fun s11 wx => ∃ N : Int, s11 = .int .i64 N ∧ -9223372036854775808 ≤ N ∧ N ≤ 9223372036854775807 ∧ wx = wz)
      case first =>
        go_wp2_with fail
        all_goals go_meet
        all_goals exact ⟨_, rfl, by omega, by omega, rfl⟩
      case rest =>
      obtain ⟨N, rfl, bN, bN', rfl⟩ := hcut
      clear y0 y1 wy2 c2'
      go_upto_if 61 with (fail)
      go_cut [10] (fun s10 wx => ∃ M : Int, s10 = .int .i64 M ∧ -9223372036854775808 ≤ M ∧ M ≤ 9223372036854775807 ∧ wx = wc)
      case first =>
        go_wp2_with fail
        all_goals go_meet
        all_goals exact ⟨_, rfl, by omega, by omega, rfl⟩
      case rest =>
      obtain ⟨M, rfl, bM, bM', rfl⟩ := hcut
      clear x0 x1 wx2 c1'
      have hsm := hs.out
      have hlc := Lib.hid hm'.out.1
      have hcase : (0 ≤ M ∧ M < 8 ∧ 0 ≤ N ∧ N < 2147483648) ∨ (M < 0 ∨ (¬ M < 0 ∧ ¬ M < 8) ∨ (¬ M < 0 ∧ M < 8 ∧ N < 0) ∨ (¬ M < 0 ∧ M < 8 ∧ ¬ N < 0 ∧ ¬ N < 2147483648)) := by omega
      go_upto_region 14 with (fail)
      go_cut [79] (fun s79 wx => ∃ p : Bool, s79 = .bool p ∧ (p = true → 0 ≤ M ∧ M < 8 ∧ 0 ≤ N ∧ N < 2147483648) ∧ (p = false → M < 0 ∨ 8 ≤ M ∨ N < 0 ∨ 2147483647 < N) ∧ wx = wc)
      case first =>
        clear hsm hlc bM bM' bN bN'
        rcases hcase with ⟨m0, m1, n0, n1⟩ | m0 | ⟨m0, m1⟩ | ⟨m0, m1, n0⟩ | ⟨m0, m1, n0, n1⟩
        all_goals go_wp2_with fail
        all_goals go_meet
        all_goals exact ⟨_, rfl, fun h => (by first | (cases h; done) | (simp at h; done) | (simp at h; omega) | omega), fun h => (by first | (cases h; done) | (simp at h; done) | (simp at h; omega) | omega), rfl⟩
      case rest =>
      obtain ⟨p, rfl, hp1, hp2, rfl⟩ := hcut
      clear hcase
      go_upto_if 79 with (fail)
      go_cut [12] (fun s12 wx => ∃ (cs' : List Int) (t : Int), s12 = .int .i64 t ∧ Step M N cs cs' t ∧ Hid (Met wx b cs) ∧ Hid (wx.rowIs g 3 8 (allF cs' 8)) ∧ Hid (Below w.heap.size w wx))
      case first =>
        cases p
        · have hbad := Lib.hid (hp2 rfl)
          clear hp1 hp2
          go_wp2_with fail
          go_meet
          exact ⟨cs, 0, rfl, .inr ⟨hbad.out, rfl, rfl⟩, hm', hr', hbl'⟩
        · obtain ⟨m0, m1, n0, n1⟩ := hp1 rfl
          clear hp1 hp2 bM bM' bN bN'
          obtain ⟨k, rfl⟩ := Int.eq_ofNat_of_zero_le m0
          have hk8 : k < 8 := by omega
          have ck := all_at hr'.out k hk8
          have fk := hr'.out.frozen k
          have sk := hsm k
          have HS := Lib.hid hsm
          clear hsm
          obtain ⟨v, hv⟩ : ∃ v, cs.getD k 0 = v := ⟨_, rfl⟩
          rw [hv] at ck sk
          have HV := Lib.hid hv
          have sk1 := sk.1
          have sk2 : v ≤ 51539607552 := by omega
          clear hv sk
          have hs1 := all_set hlc.out hr'.out k hk8 (v + N)
          have hs2 := hm'.out.of_block (w' := wc.setCell ⟨g, k, none⟩ (.int .i64 (v + N))) (heap_setCell_other _ _ _ _ (by simp; omega))
          have hs3 : Below w.heap.size w (wc.setCell ⟨g, k, none⟩ (.int .i64 (v + N))) := hbl'.out.setCell (by have := HBB.out; simp; omega) _
          have HS1 := Lib.hid hs1
          have HS2 := Lib.hid hs2
          have HS3 := Lib.hid hs3
          clear hs1 hs2 hs3
          go_wp2_with fail
          go_meet
          exact ⟨_, v + N, rfl, .inl ⟨k, rfl, hk8, n0, n1, by rw [HV.out], by rw [HV.out]⟩, HS2, HS1, HS3⟩
      case rest =>
      clear hm' hr' hbl'
      obtain ⟨cs', t, rfl, hst, hm', hr', hbl'⟩ := hcut
      clear hp1 hp2 bM bM' bN bN'
      have hs' := Lib.hid (hst.small hlc.out (M := M) (N := N) hsm)
      have hlc' := Lib.hid (hst.len hlc.out)
      have HS := Lib.hid hsm
      have HT := Lib.hid hst
      clear hsm hst
      go_wp2_with fail
      refine (add_step M N b cs cs' t _ HT.out hm'.out (HS.out.more (by omega))).mono ?_
      rintro e w2 ⟨rfl, h2, g2⟩
      have H2 := Lib.hid h2
      have B2 := Lib.hid (own_grown hbl'.out g2 (by rw [HBB.out]; omega))
      have R2 := Lib.hid (hr'.out.of_block (g2.block g hr'.out.lt (by simp; omega)))
      clear h2 g2 hbl' hr' hm' HT HS
      have hcase : (0 ≤ M ∧ M < 8) ∨ (M < 0 ∨ (¬ M < 0 ∧ ¬ M < 8)) := by omega
      go_upto_region 20 with (fail)
      go_cut [102] (fun s102 wx => ∃ p : Bool, s102 = .bool p ∧ (p = true → 0 ≤ M ∧ M < 8) ∧ (p = false → M < 0 ∨ 8 ≤ M) ∧ wx = w2)
      case first =>
        rcases hcase with ⟨m0, m1⟩ | m0 | ⟨m0, m1⟩
        all_goals go_wp2_with fail
        all_goals go_meet
        all_goals exact ⟨_, rfl, fun h => (by first | (cases h; done) | (simp at h; done) | (simp at h; omega) | omega), fun h => (by first | (cases h; done) | (simp at h; done) | (simp at h; omega) | omega), rfl⟩
      case rest =>
      obtain ⟨p, rfl, hp1, hp2, rfl⟩ := hcut
      clear hcase
      go_upto_if 102 with (fail)
      go_cut [13] (fun s13 wx => ∃ (t : Int), s13 = .int .i64 t ∧ Got M cs' t ∧ wx = wc)
      case first =>
        cases p
        · have hbad := Lib.hid (hp2 rfl)
          clear hp1 hp2
          go_wp2_with fail
          go_meet
          exact ⟨0, rfl, .inr ⟨hbad.out, rfl⟩, rfl⟩
        · obtain ⟨m0, m1⟩ := hp1 rfl
          clear hp1 hp2
          obtain ⟨k, rfl⟩ := Int.eq_ofNat_of_zero_le m0
          have hk8 : k < 8 := by omega
          have ck := all_at R2.out k hk8
          go_wp2_with fail
          go_meet
          exact ⟨_, rfl, .inl ⟨k, rfl, hk8, rfl⟩, rfl⟩
      case rest =>
      obtain ⟨v, rfl, hgot, rfl⟩ := hcut
      have HGOT := Lib.hid hgot
      clear hp1 hp2 hgot
      go_wp2_with fail
      refine (get_got M b cs' v _ HGOT.out H2.out).mono ?_
      rintro e w3 ⟨rfl, h3, g3⟩
      have H3 := Lib.hid h3
      have B3 := Lib.hid (own_grown B2.out g3 (by rw [HBB.out]; omega))
      have R3 := Lib.hid (R2.out.of_block (g3.block g R2.out.lt (by simp; omega)))
      clear h3 g3 H2 B2 R2
      go_wp2_with fail
      refine (all_any b _ _ H3.out).mono ?_
      rintro e w4 ⟨g', hg', rfl, hr, h4, g4⟩
      have H4 := Lib.hid h4
      have B4 := Lib.hid (own_grown B3.out g4 (by rw [HBB.out]; omega))
      have R4 := Lib.hid (R3.out.of_block (g4.block g R3.out.lt (by simp; omega)))
      have RR := Lib.hid hr
      clear h4 g4 H3 B3 R3 hr hg'
      go_wp2_with fail
      refine (sameI_true cs' hlc'.out hlc'.out (rd_all hlc'.out RR.out) (rd_all hlc'.out R4.out) (by rw [hlc'.out]; decide)).mono ?_
      rintro e w5 ⟨rfl, nd, rfl⟩
      go_wp2_with fail
      refine (within_any _ _ _ (by omega) (by omega)).mono ?_
      rintro e w' ⟨rfl, rfl⟩
      by_cases hjr : (j : Int) = a2 % 30
      · have hjr2 : ((j : Int) == a2 % 30) = true := by simpa using hjr
        clear hjr
        go_wp2_with fail
        refine (reset_any b _ _ (H4.out.drewN nd)).mono ?_
        rintro e w6 ⟨rfl, h6, g6⟩
        have B6 := Lib.hid (own_grown (below_drewN' B4.out nd) g6 (by rw [HBB.out]; omega))
        obtain ⟨gg, hgg⟩ : ∃ gg, w6.heap.size = gg := ⟨_, rfl⟩
        have hbgg : b < gg := by rw [← hgg]; exact h6.lt
        obtain ⟨W6, hW6⟩ : ∃ W6, w6.alloc (Obj.cells (madeCells #[Value.int IntKind.i64 0] 8) 3) = W6 := ⟨_, rfl⟩
        have H7 : Hid (Met W6 b zeros) := Lib.hid (by rw [← hW6]; exact h6.alloc _)
        have B7 : Hid (Below w.heap.size w W6) := Lib.hid (by rw [← hW6]; exact B6.out.alloc B6.out.size _)
        have R7 : Hid (W6.rowIs gg 3 8 (allF zeros 8)) := Lib.hid (by
          rw [← hW6, ← hgg]
          refine (World.rowIs_made w6 (.int .i64 0) 8 3).congr fun i hi => ?_
          match i, hi with
          | 0, _ | 1, _ | 2, _ | 3, _ | 4, _ | 5, _ | 6, _ | 7, _ => rfl)
        have HG := Lib.hid hgg
        have HW := Lib.hid hW6
        clear h6 g6 hgg hW6 B6 H4 B4 R4 RR
        have hmk := HMK.out
        go_wp2_with fail
        clear hmk
        rw [HG.out, HW.out]
        clear HG HW
        refine (all_any b _ _ H7.out).mono ?_
        rintro e w8 ⟨g8, hg8, rfl, hr8, h8, gr8⟩
        have H8 := Lib.hid h8
        have B8 := Lib.hid (own_grown B7.out gr8 (by rw [HBB.out]; omega))
        have R8 := Lib.hid (R7.out.of_block (gr8.block gg R7.out.lt (by simp; omega)))
        have RR := Lib.hid hr8
        clear h8 gr8 hr8 hg8 H7 B7 R7
        go_wp2_with fail
        refine (sameI_true zeros rfl rfl (rd_all rfl RR.out) (rd_all rfl R8.out) (by decide)).mono ?_
        rintro e w9 ⟨rfl, nd2, rfl⟩
        go_wp2_with fail
        have HSM := Lib.hid (small_zero.more (show (0 : Int) ≤ 2147483648 * ((j + 1 : Nat) : Int) by omega))
        go_roundg (gk - 1)
        case measure => omega
        case rel => exact ⟨j + 1, gg, zeros, by omega, by omega, by omega, by go_num, rfl, hbgg, Lib.hid (H8.out.drewN nd2), Lib.hid R8.out, HSM, Lib.hid (below_drewN' B8.out nd2)⟩
      · have hjr2 : ((j : Int) == a2 % 30) = false := by simpa using hjr
        clear hjr
        have HSM := Lib.hid (hs'.out.more (show 2147483648 * (j : Int) + 2147483648 ≤ 2147483648 * ((j + 1 : Nat) : Int) by omega))
        go_wp2_with fail
        go_roundg (gk - 1)
        case measure => omega
        case rel => exact ⟨j + 1, g, cs', by omega, by omega, by omega, by go_num, rfl, hbg, Lib.hid (H4.out.drewN nd), Lib.hid R4.out, HSM, Lib.hid (below_drewN' B4.out nd)⟩
    · have hq : ¬ (j : Int) < (n : Int) ∨ ((j : Int) < (n : Int) ∧ ¬ (j : Int) < (m : Int)) ∨ ((j : Int) < (n : Int) ∧ (j : Int) < (m : Int) ∧ ¬ (j : Int) < 24) := by omega
      clear hlt hj hj2 hj3
      have hlc := Lib.hid hm.out.1
      have HS := Lib.hid (hs.out.more (show 2147483648 * (j : Int) ≤ 2147483648 * (j : Int) by omega))
      rcases hq with hq | ⟨hq, hq2⟩ | ⟨hq, hq2, hq3⟩
      all_goals
        go_wp2_with fail
        refine (all_any b _ _ hm.out).mono ?_
        rintro e w4 ⟨g4, hg4, rfl, hr4, h4, gr4⟩
        have H4 := Lib.hid h4
        have B4 := Lib.hid (own_grown hbl.out gr4 (by rw [HBB.out]; omega))
        have R4 := Lib.hid (hr.out.of_block (gr4.block g hr.out.lt (by simp; omega)))
        have RR := Lib.hid hr4
        have hne : g4 ≠ g := by have := hr.out.lt; omega
        have hne2 : g4 ≠ b := by have := hm.out.lt; omega
        have hge : w.heap.size ≤ g4 := by have := hbl.out.size; omega
        have ck := all_at hr4 0 (by omega)
        have fk := hr4.frozen 0
        clear h4 gr4 hr4 hg4 hm hr hbl
        obtain ⟨v, hv⟩ : ∃ v, cs.getD 0 0 = v := ⟨_, rfl⟩
        rw [hv] at ck
        clear hv
        have H5 : ∀ x, Met (w4.setCell ⟨g4, 0, none⟩ x) b cs := fun x => H4.out.of_block (heap_setCell_other _ _ _ _ (by simp; omega))
        have R5 : ∀ x, (w4.setCell ⟨g4, 0, none⟩ x).rowIs g 3 8 (allF cs 8) := fun x => R4.out.of_block (heap_setCell_other _ _ _ _ (by simp; omega))
        have B5 : ∀ x, Below w.heap.size w (w4.setCell ⟨g4, 0, none⟩ x) := fun x => B4.out.setCell (by simpa using hge) _
        have HH5 := Lib.hid H5
        have HR5 := Lib.hid R5
        have HB5 := Lib.hid B5
        clear H5 R5 B5 H4 R4 B4
        go_wp2_with fail
        refine (all_any b _ _ (HH5.out _)).mono ?_
        rintro e w6 ⟨g6, hg6, rfl, hr6, h6, gr6⟩
        have B6 := Lib.hid (own_grown (HB5.out _) gr6 (by rw [HBB.out]; omega))
        have R6 := Lib.hid ((HR5.out _).of_block (gr6.block g (HR5.out _).lt (by simp; omega)))
        have RR6 := Lib.hid hr6
        clear h6 gr6 hr6 hg6 HH5 HR5 HB5
        go_wp2_with fail
        refine (sameI_true cs hlc.out hlc.out (rd_all hlc.out RR6.out) (rd_all hlc.out R6.out) (by rw [hlc.out]; decide)).mono ?_
        rintro e w7 ⟨rfl, nd, rfl⟩
        go_wp2_with fail
        refine (wakes_any _).mono ?_
        rintro e w8 ⟨rfl, b8⟩
        go_wp2
        go_ret
        exact ⟨rfl, (below_drewN' B6.out nd).trans (b8.mono (below_drewN' B6.out nd).size)⟩
end Go.Proofs.Ytochkfpnndfliaa
