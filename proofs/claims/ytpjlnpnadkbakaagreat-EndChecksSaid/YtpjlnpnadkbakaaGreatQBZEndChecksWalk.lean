/-
  The walk of EndChecks.
-/
import Derived.Test.YtpjlnpnadkbakaaGreatQBXEc
import Derived.Test.YtpjlnpnadkbakaaGreatQBPrEn17
import Derived.Test.YtpjlnpnadkbakaaGreatQBZPrCheck
import Derived.Test.YtpjlnpnadkbakaaGreatQBPrEvK
import Derived.Deep.CutBlock
import Derived.Deep.DeepCutAuto
namespace Go.Proofs.YtpjlnpnadkbakaaGreat
set_option maxRecDepth 10000
open Go.RowKit
def Cf.cg (c : Cf) : Cg := ⟨c.pa, c.bu, c.wi, c.ch, c.mo, c.fi, c.sc⟩
theorem cfF_lit (a b c d e f g : Int) : ∀ i, i < 7 → #[Value.int .i64 a, .int .i64 b, .int .i64 c, .int .i64 d, .int .i64 e, .int .i64 f, .int .i64 g][i]? = some (cfF ⟨a, b, c, d, e, f, g⟩ i) := fun i hi => by
  match i, hi with
  | 0, _ | 1, _ | 2, _ | 3, _ | 4, _ | 5, _ | 6, _ => rfl
theorem tmod5 {side : Int} (h : side.tmod 5 = 4) : side ≠ 0 ∧ side ≠ 1 := by
  refine ⟨?_, ?_⟩ <;> (rintro rfl; revert h; decide)
theorem cf_cells {w : World} {b : Nat} {np buf win chk most first sched : Int} (h : w.rowIs b tCf 7 (cfF ⟨np, buf, win, chk, most, first, sched⟩)) : w.cell? ⟨b, 0, none⟩ = some (.int .i64 np) ∧ w.cell? ⟨b, 1, none⟩ = some (.int .i64 buf) ∧ w.cell? ⟨b, 2, none⟩ = some (.int .i64 win) ∧ w.cell? ⟨b, 3, none⟩ = some (.int .i64 chk) ∧ w.cell? ⟨b, 4, none⟩ = some (.int .i64 most) ∧ w.cell? ⟨b, 5, none⟩ = some (.int .i64 first) ∧ w.cell? ⟨b, 6, none⟩ = some (.int .i64 sched) :=
  ⟨World.rowIs.cell (i := 0) h (by omega), World.rowIs.cell (i := 1) h (by omega), World.rowIs.cell (i := 2) h (by omega), World.rowIs.cell (i := 3) h (by omega), World.rowIs.cell (i := 4) h (by omega), World.rowIs.cell (i := 5) h (by omega), World.rowIs.cell (i := 6) h (by omega)⟩
theorem cf_later {W w w' : World} {b : Nat} {c : Cf} (h : w.rowIs b tCf 7 (cfF c)) (hB : Below W.heap.size W w) (hb : Below w.heap.size w w') : w'.rowIs b tCf 7 (cfF c) ∧ Below W.heap.size W w' :=
  ⟨World.rowIs.of_block h (hb.block b (World.rowIs.lt h)), hB.trans (hb.mono hB.size)⟩
theorem new_yes (np buf win chk most first sched side : Int) (w : World) (hok : Cg.ok ⟨np, buf, win, chk, most, first, sched⟩ = true) (hsd : side = 0 ∨ side = 1) :
    Calls Tryz.prog 31 #[.agg #[.int .i64 np, .int .i64 buf, .int .i64 win, .int .i64 chk, .int .i64 most, .int .i64 first, .int .i64 sched], .int .i64 side] w fun e w' => ∃ b, e = .returned (.tuple #[.pointer (some ⟨b, 0, none⟩), .int .i64 0]) ∧ Below w.heap.size w w' := by
  have h1 : 1 ≤ np := by
    have : inR np 3 = true := by
      unfold Cg.ok at hok
      simp only [Bool.and_eq_true] at hok
      exact hok.1.1.1.1.1.1
    unfold inR at this
    simp at this
    omega
  obtain ⟨n, rfl⟩ : ∃ n : Nat, np = (n : Int) := ⟨np.toNat, by omega⟩
  refine (ev_new (w0 := w) w 1 n (by omega) buf win chk most first sched side (Below.refl _ _) hok hsd (fun _ => 0) (fun k _ => by unfold Es; omega)).mono ?_
  rintro e w' ⟨b, L', rfl, h, -⟩
  exact ⟨b, rfl, h.bel⟩
set_option maxHeartbeats 8000000 in
theorem endChecks_walk (s : Su) (what v side : Int) (W : World) :
    Calls Tryz.prog 10 #[s.val, .int .i64 what, .int .i64 v, .int .i64 side] W fun e W' => e = .returned (.bool true) ∧ Below W.heap.size W W' := by
  obtain ⟨spa, sbu, swi, sch, smo, sfi, ssc⟩ := s
  obtain ⟨⟨cpa, cbu, cwi, cch, cmo, cfi, csc⟩, hc⟩ : ∃ c, (Su.cf ⟨spa, sbu, swi, sch, smo, sfi, ssc⟩) = c := ⟨_, rfl⟩
  have HCF := Lib.hid (fun w => (show Calls Tryz.prog 38 #[.agg #[.int .i64 spa, .int .i64 sbu, .int .i64 swi, .int .i64 sch, .int .i64 smo, .int .i64 sfi, .int .i64 ssc]] w fun e w' => e = .returned (.agg #[.int .i64 cpa, .int .i64 cbu, .int .i64 cwi, .int .i64 cch, .int .i64 cmo, .int .i64 cfi, .int .i64 csc]) ∧ Below w.heap.size w w' from by
    have h9 := config_any ⟨spa, sbu, swi, sch, smo, sfi, ssc⟩ w
    rw [hc] at h9
    exact h9))
  have HWN := Lib.hid (fun w => within_any what 9 w (by omega) (by omega))
  obtain ⟨z, hz⟩ : ∃ z, what % 9 = z := ⟨_, rfl⟩
  have hz2 : 0 ≤ z ∧ z < 9 := by omega
  rw [hz] at HWN
  have HZ := Lib.hid hz2
  clear hc hz hz2
  simp only [Su.val]
  have HB0 := Lib.hid ((Below.refl W.heap.size W).alloc (Nat.le_refl _) (.cells #[.int .i64 spa, .int .i64 sbu, .int .i64 swi, .int .i64 sch, .int .i64 smo, .int .i64 sfi, .int .i64 ssc] tSu))
  go_enter Tryz.func10, Tryz.ntmps10
  go_wp2_with fail
  refine (HCF.out _).mono ?_
  rintro e w1 ⟨rfl, hb⟩
  have hb1 := HB0.out.trans (hb.mono HB0.out.size)
  obtain ⟨b1, hb1q⟩ : ∃ b, w1.heap.size = b := ⟨_, rfl⟩
  have hle : W.heap.size ≤ b1 := by rw [← hb1q]; exact hb1.size
  have hB2 : Below W.heap.size W (w1.alloc (.cells #[.int .i64 0, .int .i64 0, .int .i64 0, .int .i64 0, .int .i64 0, .int .i64 0, .int .i64 0] 26)) := hb1.alloc hb1.size _
  have hrow : (w1.alloc (.cells #[.int .i64 0, .int .i64 0, .int .i64 0, .int .i64 0, .int .i64 0, .int .i64 0, .int .i64 0] 26)).rowIs b1 tCf 7 (cfF ⟨0, 0, 0, 0, 0, 0, 0⟩) := by
    rw [← hb1q]
    exact World.rowIs_alloc w1 _ _ _ (cfF_lit 0 0 0 0 0 0 0)
  obtain ⟨w2, hw2⟩ : ∃ w2, w1.alloc (.cells #[.int .i64 0, .int .i64 0, .int .i64 0, .int .i64 0, .int .i64 0, .int .i64 0, .int .i64 0] 26) = w2 := ⟨_, rfl⟩
  rw [hw2] at hB2 hrow
  have hrow3 := st7_row hrow ⟨cpa, cbu, cwi, cch, cmo, cfi, csc⟩
  have hB3 := hB2.grown (st7_grown w2 b1 ⟨cpa, cbu, cwi, cch, cmo, cfi, csc⟩) hB2.size (by intro g e; simp at e; omega)
  have f0 : ∀ i, w2.frozen? ⟨b1, i, none⟩ = false := World.rowIs.frozen hrow
  have x0 : w2.cell? ⟨b1, 0, none⟩ = some (.int .i64 0) := World.rowIs.cell (i := 0) hrow (by omega)
  have x1 : w2.cell? ⟨b1, 1, none⟩ = some (.int .i64 0) := World.rowIs.cell (i := 1) hrow (by omega)
  have x2 : w2.cell? ⟨b1, 2, none⟩ = some (.int .i64 0) := World.rowIs.cell (i := 2) hrow (by omega)
  have x3 : w2.cell? ⟨b1, 3, none⟩ = some (.int .i64 0) := World.rowIs.cell (i := 3) hrow (by omega)
  have x4 : w2.cell? ⟨b1, 4, none⟩ = some (.int .i64 0) := World.rowIs.cell (i := 4) hrow (by omega)
  have x5 : w2.cell? ⟨b1, 5, none⟩ = some (.int .i64 0) := World.rowIs.cell (i := 5) hrow (by omega)
  have x6 : w2.cell? ⟨b1, 6, none⟩ = some (.int .i64 0) := World.rowIs.cell (i := 6) hrow (by omega)
  have HM := Lib.hid (And.intro hrow3 (And.intro hB3 hle))
  clear hb hb1 HB0 HCF hle hrow hB2 hrow3 hB3
  go_upto_region 2 with (fail)
  change Code.wp _ _ _ _ (st7 w2 b1 ⟨cpa, cbu, cwi, cch, cmo, cfi, csc⟩)
  obtain ⟨w3, hw3⟩ : ∃ w3, st7 w2 b1 ⟨cpa, cbu, cwi, cch, cmo, cfi, csc⟩ = w3 := ⟨_, rfl⟩
  rw [hw3] at HM ⊢
  clear x0 x1 x2 x3 x4 x5 x6 f0 hw2 hw3 w2 hb1q
  go_upto_block 0 with (go_at_call 25; refine (HWN.out _).mono ?_; rintro e w9 ⟨rfl, rfl⟩)
  go_cut [] (fun wx => ∃ wz, wz = wx ∧ Hid (∃ c : Cf, wz.rowIs b1 tCf 7 (cfF c) ∧ Below W.heap.size W wz))
  case first =>
    obtain ⟨hrow, hB, hle⟩ := HM.out
    have f0 : ∀ i, w3.frozen? ⟨b1, i, none⟩ = false := World.rowIs.frozen hrow
    have x0 : w3.cell? ⟨b1, 0, none⟩ = some (.int .i64 cpa) := World.rowIs.cell (i := 0) hrow (by omega)
    have x1 : w3.cell? ⟨b1, 1, none⟩ = some (.int .i64 cbu) := World.rowIs.cell (i := 1) hrow (by omega)
    have x2 : w3.cell? ⟨b1, 2, none⟩ = some (.int .i64 cwi) := World.rowIs.cell (i := 2) hrow (by omega)
    have x3 : w3.cell? ⟨b1, 3, none⟩ = some (.int .i64 cch) := World.rowIs.cell (i := 3) hrow (by omega)
    have x4 : w3.cell? ⟨b1, 4, none⟩ = some (.int .i64 cmo) := World.rowIs.cell (i := 4) hrow (by omega)
    have x5 : w3.cell? ⟨b1, 5, none⟩ = some (.int .i64 cfi) := World.rowIs.cell (i := 5) hrow (by omega)
    have x6 : w3.cell? ⟨b1, 6, none⟩ = some (.int .i64 csc) := World.rowIs.cell (i := 6) hrow (by omega)
    have HP := Lib.hid (show ∀ (k : Nat) (c' : Cf), (∀ i, i < 7 → (if i = k then Value.int .i64 v else cfF ⟨cpa, cbu, cwi, cch, cmo, cfi, csc⟩ i) = cfF c' i) → Hid (∃ c : Cf, (w3.setCell ⟨b1, k, none⟩ (.int .i64 v)).rowIs b1 tCf 7 (cfF c) ∧ Below W.heap.size W (w3.setCell ⟨b1, k, none⟩ (.int .i64 v))) from fun k c' he => Lib.hid ⟨c', (World.rowIs.set hrow k _).congr he, hB.grown (setCell_one _ _ _ _) hB.size (by intro g e; simp at e; omega)⟩)
    have HQ := Lib.hid (show ∃ c : Cf, w3.rowIs b1 tCf 7 (cfF c) ∧ Below W.heap.size W w3 from ⟨_, hrow, hB⟩)
    clear hrow hB hle HM
    rcases (show z = 0 ∨ z = 1 ∨ z = 2 ∨ z = 3 ∨ z = 4 ∨ z = 5 ∨ z = 6 ∨ 6 < z by have := HZ.out; omega) with rfl | rfl | rfl | rfl | rfl | rfl | rfl | hz
    · clear HZ HWN
      go_wp2_with fail
      go_meet
      exact ⟨_, rfl, HP.out 0 ⟨v, cbu, cwi, cch, cmo, cfi, csc⟩ (fun i hi => by
        match i, hi with
        | 0, _ | 1, _ | 2, _ | 3, _ | 4, _ | 5, _ | 6, _ => rfl)⟩
    · clear HZ HWN
      go_wp2_with fail
      go_meet
      exact ⟨_, rfl, HP.out 1 ⟨cpa, v, cwi, cch, cmo, cfi, csc⟩ (fun i hi => by
        match i, hi with
        | 0, _ | 1, _ | 2, _ | 3, _ | 4, _ | 5, _ | 6, _ => rfl)⟩
    · clear HZ HWN
      go_wp2_with fail
      go_meet
      exact ⟨_, rfl, HP.out 2 ⟨cpa, cbu, v, cch, cmo, cfi, csc⟩ (fun i hi => by
        match i, hi with
        | 0, _ | 1, _ | 2, _ | 3, _ | 4, _ | 5, _ | 6, _ => rfl)⟩
    · clear HZ HWN
      go_wp2_with fail
      go_meet
      exact ⟨_, rfl, HP.out 3 ⟨cpa, cbu, cwi, v, cmo, cfi, csc⟩ (fun i hi => by
        match i, hi with
        | 0, _ | 1, _ | 2, _ | 3, _ | 4, _ | 5, _ | 6, _ => rfl)⟩
    · clear HZ HWN
      go_wp2_with fail
      go_meet
      exact ⟨_, rfl, HP.out 4 ⟨cpa, cbu, cwi, cch, v, cfi, csc⟩ (fun i hi => by
        match i, hi with
        | 0, _ | 1, _ | 2, _ | 3, _ | 4, _ | 5, _ | 6, _ => rfl)⟩
    · clear HZ HWN
      go_wp2_with fail
      go_meet
      exact ⟨_, rfl, HP.out 5 ⟨cpa, cbu, cwi, cch, cmo, v, csc⟩ (fun i hi => by
        match i, hi with
        | 0, _ | 1, _ | 2, _ | 3, _ | 4, _ | 5, _ | 6, _ => rfl)⟩
    · clear HZ HWN
      go_wp2_with fail
      go_meet
      exact ⟨_, rfl, HP.out 6 ⟨cpa, cbu, cwi, cch, cmo, cfi, v⟩ (fun i hi => by
        match i, hi with
        | 0, _ | 1, _ | 2, _ | 3, _ | 4, _ | 5, _ | 6, _ => rfl)⟩
    · have h0 : (z == 0) = false := by simp; omega
      have h1 : (z == 1) = false := by simp; omega
      have h2 : (z == 2) = false := by simp; omega
      have h3 : (z == 3) = false := by simp; omega
      have h4 : (z == 4) = false := by simp; omega
      have h5 : (z == 5) = false := by simp; omega
      have h6 : (z == 6) = false := by simp; omega
      clear HZ HWN hz
      go_wp2_with fail
      go_meet
      exact ⟨_, rfl, HQ⟩
  case rest =>
    obtain ⟨wz, rfl, hh⟩ := hcut
    obtain ⟨⟨np, buf, win, chk, most, first, sched⟩, hrow, hB⟩ := hh.out
    clear HM HWN HZ hh
    have HR := Lib.hid (And.intro hrow hB)
    clear hrow hB
    have HRC0 := fun w => rcheck_any np buf win chk most first sched w
    have HEC0 := fun w => echeck_any np buf win chk most first sched w
    cases hok : Cg.ok ⟨np, buf, win, chk, most, first, sched⟩
    · have HRC := Lib.hid (fun w => (show Calls Tryz.prog 39 #[.agg #[.int .i64 np, .int .i64 buf, .int .i64 win, .int .i64 chk, .int .i64 most, .int .i64 first, .int .i64 sched]] w fun e w' => e = .returned (.bool false) ∧ Below w.heap.size w w' from by have := HRC0 w; rw [hok] at this; exact this))
      have HEC := Lib.hid (fun w => (show Calls Tryz.prog 40 #[.agg #[.int .i64 np, .int .i64 buf, .int .i64 win, .int .i64 chk, .int .i64 most, .int .i64 first, .int .i64 sched]] w fun e w' => e = .returned (.int .i64 1) ∧ Below w.heap.size w w' from by have := HEC0 w; rw [hok] at this; exact this))
      have HNW := Lib.hid (fun sd w => newee_bad np buf win chk most first sched sd w hok)
      clear HRC0 HEC0 hok
      by_cases hs : side.tmod 5 = 4
      · have hs2 := tmod5 hs
        have s0 : (side != 0) = true := by simp [hs2.1]
        have s1 : (side != 1) = true := by simp [hs2.2]
        obtain ⟨hrow, hB⟩ := HR.out
        obtain ⟨x0, x1, x2, x3, x4, x5, x6⟩ := cf_cells hrow
        clear hrow hB
        go_wp2_with fail
        refine (HRC.out _).mono ?_
        rintro e w4 ⟨rfl, hb⟩
        have HR4 := Lib.hid (cf_later HR.out.1 HR.out.2 hb)
        clear x0 x1 x2 x3 x4 x5 x6 hb HR HRC
        obtain ⟨x0, x1, x2, x3, x4, x5, x6⟩ := cf_cells HR4.out.1
        go_wp2_with fail
        refine (HNW.out _ _).mono ?_
        rintro e w5 ⟨rfl, hb⟩
        have HR5 := Lib.hid (cf_later HR4.out.1 HR4.out.2 hb)
        clear x0 x1 x2 x3 x4 x5 x6 hb HR4 HNW
        obtain ⟨x0, x1, x2, x3, x4, x5, x6⟩ := cf_cells HR5.out.1
        go_wp2_with fail
        refine (HEC.out _).mono ?_
        rintro e w6 ⟨rfl, hb⟩
        have HR6 := Lib.hid (cf_later HR5.out.1 HR5.out.2 hb)
        clear x0 x1 x2 x3 x4 x5 x6 hb HR5 HEC
        go_wp2_with fail
        refine (wakes19_any _).mono ?_
        rintro e w7 ⟨rfl, hb⟩
        have HR7 := Lib.hid (cf_later HR6.out.1 HR6.out.2 hb)
        clear hb HR6
        go_wp2
        go_ret
        exact ⟨rfl, HR7.out.2⟩
      · obtain ⟨t5, ht5⟩ : ∃ t, side.tmod 5 = t := ⟨_, rfl⟩
        have s5 : (t5 != 4) = true := by rw [ht5] at hs; simp [hs]
        clear hs
        rcases (show side % 2 = 0 ∨ side % 2 = 1 by omega) with hsd | hsd
        · obtain ⟨hrow, hB⟩ := HR.out
          obtain ⟨x0, x1, x2, x3, x4, x5, x6⟩ := cf_cells hrow
          clear hrow hB
          go_wp2_with fail
          refine (HRC.out _).mono ?_
          rintro e w4 ⟨rfl, hb⟩
          have HR4 := Lib.hid (cf_later HR.out.1 HR.out.2 hb)
          clear x0 x1 x2 x3 x4 x5 x6 hb HR HRC
          obtain ⟨x0, x1, x2, x3, x4, x5, x6⟩ := cf_cells HR4.out.1
          go_wp2_with (go_at_call 25; refine (within_any side 2 _ (by omega) (by omega)).mono ?_; rintro e w9 ⟨rfl, rfl⟩)
          refine (HNW.out _ _).mono ?_
          rintro e w5 ⟨rfl, hb⟩
          have HR5 := Lib.hid (cf_later HR4.out.1 HR4.out.2 hb)
          clear x0 x1 x2 x3 x4 x5 x6 hb HR4 HNW
          obtain ⟨x0, x1, x2, x3, x4, x5, x6⟩ := cf_cells HR5.out.1
          go_wp2_with fail
          refine (HEC.out _).mono ?_
          rintro e w6 ⟨rfl, hb⟩
          have HR6 := Lib.hid (cf_later HR5.out.1 HR5.out.2 hb)
          clear x0 x1 x2 x3 x4 x5 x6 hb HR5 HEC
          go_wp2_with fail
          refine (wakes19_any _).mono ?_
          rintro e w7 ⟨rfl, hb⟩
          have HR7 := Lib.hid (cf_later HR6.out.1 HR6.out.2 hb)
          clear hb HR6
          go_wp2
          go_ret
          exact ⟨rfl, HR7.out.2⟩
        · obtain ⟨hrow, hB⟩ := HR.out
          obtain ⟨x0, x1, x2, x3, x4, x5, x6⟩ := cf_cells hrow
          clear hrow hB
          go_wp2_with fail
          refine (HRC.out _).mono ?_
          rintro e w4 ⟨rfl, hb⟩
          have HR4 := Lib.hid (cf_later HR.out.1 HR.out.2 hb)
          clear x0 x1 x2 x3 x4 x5 x6 hb HR HRC
          obtain ⟨x0, x1, x2, x3, x4, x5, x6⟩ := cf_cells HR4.out.1
          go_wp2_with (go_at_call 25; refine (within_any side 2 _ (by omega) (by omega)).mono ?_; rintro e w9 ⟨rfl, rfl⟩)
          refine (HNW.out _ _).mono ?_
          rintro e w5 ⟨rfl, hb⟩
          have HR5 := Lib.hid (cf_later HR4.out.1 HR4.out.2 hb)
          clear x0 x1 x2 x3 x4 x5 x6 hb HR4 HNW
          obtain ⟨x0, x1, x2, x3, x4, x5, x6⟩ := cf_cells HR5.out.1
          go_wp2_with fail
          refine (HEC.out _).mono ?_
          rintro e w6 ⟨rfl, hb⟩
          have HR6 := Lib.hid (cf_later HR5.out.1 HR5.out.2 hb)
          clear x0 x1 x2 x3 x4 x5 x6 hb HR5 HEC
          go_wp2_with fail
          refine (wakes19_any _).mono ?_
          rintro e w7 ⟨rfl, hb⟩
          have HR7 := Lib.hid (cf_later HR6.out.1 HR6.out.2 hb)
          clear hb HR6
          go_wp2
          go_ret
          exact ⟨rfl, HR7.out.2⟩
    · have HRC := Lib.hid (fun w => (show Calls Tryz.prog 39 #[.agg #[.int .i64 np, .int .i64 buf, .int .i64 win, .int .i64 chk, .int .i64 most, .int .i64 first, .int .i64 sched]] w fun e w' => e = .returned (.bool true) ∧ Below w.heap.size w w' from by have := HRC0 w; rw [hok] at this; exact this))
      have HEC := Lib.hid (fun w => (show Calls Tryz.prog 40 #[.agg #[.int .i64 np, .int .i64 buf, .int .i64 win, .int .i64 chk, .int .i64 most, .int .i64 first, .int .i64 sched]] w fun e w' => e = .returned (.int .i64 0) ∧ Below w.heap.size w w' from by have := HEC0 w; rw [hok] at this; exact this))
      have HNB := Lib.hid (fun sd w => newee_side np buf win chk most first sched sd w hok)
      have HNW := Lib.hid (fun sd (hsd : sd = 0 ∨ sd = 1) w => new_yes np buf win chk most first sched sd w hok hsd)
      clear HRC0 HEC0 hok
      by_cases hs : side.tmod 5 = 4
      · have hs2 := tmod5 hs
        have s0 : (side != 0) = true := by simp [hs2.1]
        have s1 : (side != 1) = true := by simp [hs2.2]
        obtain ⟨hrow, hB⟩ := HR.out
        obtain ⟨x0, x1, x2, x3, x4, x5, x6⟩ := cf_cells hrow
        clear hrow hB
        go_wp2_with fail
        refine (HRC.out _).mono ?_
        rintro e w4 ⟨rfl, hb⟩
        have HR4 := Lib.hid (cf_later HR.out.1 HR.out.2 hb)
        clear x0 x1 x2 x3 x4 x5 x6 hb HR HRC
        obtain ⟨x0, x1, x2, x3, x4, x5, x6⟩ := cf_cells HR4.out.1
        go_wp2_with fail
        refine (HNB.out _ _ hs2.1 hs2.2).mono ?_
        rintro e w5 ⟨rfl, hb⟩
        have HR5 := Lib.hid (cf_later HR4.out.1 HR4.out.2 hb)
        clear x0 x1 x2 x3 x4 x5 x6 hb HR4 HNW
        obtain ⟨x0, x1, x2, x3, x4, x5, x6⟩ := cf_cells HR5.out.1
        go_wp2_with fail
        refine (HEC.out _).mono ?_
        rintro e w6 ⟨rfl, hb⟩
        have HR6 := Lib.hid (cf_later HR5.out.1 HR5.out.2 hb)
        clear x0 x1 x2 x3 x4 x5 x6 hb HR5 HEC
        go_wp2_with fail
        refine (wakes19_any _).mono ?_
        rintro e w7 ⟨rfl, hb⟩
        have HR7 := Lib.hid (cf_later HR6.out.1 HR6.out.2 hb)
        clear hb HR6
        go_wp2
        go_ret
        exact ⟨rfl, HR7.out.2⟩
      · obtain ⟨t5, ht5⟩ : ∃ t, side.tmod 5 = t := ⟨_, rfl⟩
        have s5 : (t5 != 4) = true := by rw [ht5] at hs; simp [hs]
        clear hs
        rcases (show side % 2 = 0 ∨ side % 2 = 1 by omega) with hsd | hsd
        · obtain ⟨hrow, hB⟩ := HR.out
          obtain ⟨x0, x1, x2, x3, x4, x5, x6⟩ := cf_cells hrow
          clear hrow hB
          go_wp2_with fail
          refine (HRC.out _).mono ?_
          rintro e w4 ⟨rfl, hb⟩
          have HR4 := Lib.hid (cf_later HR.out.1 HR.out.2 hb)
          clear x0 x1 x2 x3 x4 x5 x6 hb HR HRC
          obtain ⟨x0, x1, x2, x3, x4, x5, x6⟩ := cf_cells HR4.out.1
          go_wp2_with (go_at_call 25; refine (within_any side 2 _ (by omega) (by omega)).mono ?_; rintro e w9 ⟨rfl, rfl⟩)
          refine (HNW.out 0 (by omega) _).mono ?_
          rintro e w5 ⟨bE, rfl, hb⟩
          have HR5 := Lib.hid (cf_later HR4.out.1 HR4.out.2 hb)
          clear x0 x1 x2 x3 x4 x5 x6 hb HR4 HNW
          obtain ⟨x0, x1, x2, x3, x4, x5, x6⟩ := cf_cells HR5.out.1
          go_wp2_with fail
          refine (HEC.out _).mono ?_
          rintro e w6 ⟨rfl, hb⟩
          have HR6 := Lib.hid (cf_later HR5.out.1 HR5.out.2 hb)
          clear x0 x1 x2 x3 x4 x5 x6 hb HR5 HEC
          go_wp2_with fail
          refine (wakes19_any _).mono ?_
          rintro e w7 ⟨rfl, hb⟩
          have HR7 := Lib.hid (cf_later HR6.out.1 HR6.out.2 hb)
          clear hb HR6
          go_wp2
          go_ret
          exact ⟨rfl, HR7.out.2⟩
        · obtain ⟨hrow, hB⟩ := HR.out
          obtain ⟨x0, x1, x2, x3, x4, x5, x6⟩ := cf_cells hrow
          clear hrow hB
          go_wp2_with fail
          refine (HRC.out _).mono ?_
          rintro e w4 ⟨rfl, hb⟩
          have HR4 := Lib.hid (cf_later HR.out.1 HR.out.2 hb)
          clear x0 x1 x2 x3 x4 x5 x6 hb HR HRC
          obtain ⟨x0, x1, x2, x3, x4, x5, x6⟩ := cf_cells HR4.out.1
          go_wp2_with (go_at_call 25; refine (within_any side 2 _ (by omega) (by omega)).mono ?_; rintro e w9 ⟨rfl, rfl⟩)
          refine (HNW.out 1 (by omega) _).mono ?_
          rintro e w5 ⟨bE, rfl, hb⟩
          have HR5 := Lib.hid (cf_later HR4.out.1 HR4.out.2 hb)
          clear x0 x1 x2 x3 x4 x5 x6 hb HR4 HNW
          obtain ⟨x0, x1, x2, x3, x4, x5, x6⟩ := cf_cells HR5.out.1
          go_wp2_with fail
          refine (HEC.out _).mono ?_
          rintro e w6 ⟨rfl, hb⟩
          have HR6 := Lib.hid (cf_later HR5.out.1 HR5.out.2 hb)
          clear x0 x1 x2 x3 x4 x5 x6 hb HR5 HEC
          go_wp2_with fail
          refine (wakes19_any _).mono ?_
          rintro e w7 ⟨rfl, hb⟩
          have HR7 := Lib.hid (cf_later HR6.out.1 HR6.out.2 hb)
          clear hb HR6
          go_wp2
          go_ret
          exact ⟨rfl, HR7.out.2⟩
end Go.Proofs.YtpjlnpnadkbakaaGreat
