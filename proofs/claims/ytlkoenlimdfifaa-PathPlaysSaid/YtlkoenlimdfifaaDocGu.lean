/-
  What NewGuess, Sample, Late and Wait of the document's own Guess make of a guess: contracts over the program.
-/
import Derived.Test.YtlkoenlimdfifaaRttMath
import Derived.Test.YtlkoenlimdfifaaWindow
namespace Go.Proofs.Ytlkoenlimdfifaa
open Go.RowKit

abbrev tGuR : TypeId := 62
/-- The cells of the document's Guess. -/
def dgF (g : Gs) (i : Nat) : Value := if i = 0 then .int .i64 g.first else if i = 1 then .int .i64 g.mean else if i = 2 then .int .i64 g.spread else if i = 3 then .int .i64 (g.late : Nat) else .bool g.sm
/-- Block p is the document's Guess g. -/
def Dg (w : World) (p : Nat) (g : Gs) : Prop := w.rowIs p tGuR 5 (dgF g)

section
variable {w w' : World} {p : Nat} {g : Gs}
theorem Dg.lt (h : Dg w p g) : p < w.heap.size := World.rowIs.lt h
theorem Dg.drewN (h : Dg w p g) (n : Nat) : Dg (w.drewN n) p g := h
theorem Dg.later (h : Dg w p g) (hb : Below w.heap.size w w') : Dg w' p g := World.rowIs.of_block h (hb.block p h.lt)
theorem Dg.c0 (h : Dg w p g) : w.cell? ⟨p, 0, none⟩ = some (.int .i64 g.first) := World.rowIs.cell (i := 0) h (by omega)
theorem Dg.c1 (h : Dg w p g) : w.cell? ⟨p, 0 + 1, none⟩ = some (.int .i64 g.mean) := World.rowIs.cell (i := 1) h (by omega)
theorem Dg.c2 (h : Dg w p g) : w.cell? ⟨p, 0 + 2, none⟩ = some (.int .i64 g.spread) := World.rowIs.cell (i := 2) h (by omega)
theorem Dg.c3 (h : Dg w p g) : w.cell? ⟨p, 0 + 3, none⟩ = some (.int .i64 (g.late : Nat)) := World.rowIs.cell (i := 3) h (by omega)
theorem Dg.c4 (h : Dg w p g) : w.cell? ⟨p, 0 + 4, none⟩ = some (.bool g.sm) := World.rowIs.cell (i := 4) h (by omega)
theorem Dg.fr (h : Dg w p g) (i : Nat) : w.frozen? ⟨p, i, none⟩ = false := World.rowIs.frozen h i
theorem Dg.set1 (h : Dg w p g) (x : Int) : Dg (w.setCell ⟨p, 0 + 1, none⟩ (.int .i64 x)) p ⟨g.first, g.sm, x, g.spread, g.late⟩ := (World.rowIs.set h 1 _).congr fun i hi => by
  have : i = 0 ∨ i = 1 ∨ i = 2 ∨ i = 3 ∨ i = 4 := by omega
  rcases this with rfl | rfl | rfl | rfl | rfl <;> simp [dgF]
theorem Dg.set2 (h : Dg w p g) (x : Int) : Dg (w.setCell ⟨p, 0 + 2, none⟩ (.int .i64 x)) p ⟨g.first, g.sm, g.mean, x, g.late⟩ := (World.rowIs.set h 2 _).congr fun i hi => by
  have : i = 0 ∨ i = 1 ∨ i = 2 ∨ i = 3 ∨ i = 4 := by omega
  rcases this with rfl | rfl | rfl | rfl | rfl <;> simp [dgF]
theorem Dg.set3 (h : Dg w p g) (x : Int) (k : Nat) (hx : x = (k : Int)) : Dg (w.setCell ⟨p, 0 + 3, none⟩ (.int .i64 x)) p ⟨g.first, g.sm, g.mean, g.spread, k⟩ := (World.rowIs.set h 3 _).congr fun i hi => by
  subst hx
  have : i = 0 ∨ i = 1 ∨ i = 2 ∨ i = 3 ∨ i = 4 := by omega
  rcases this with rfl | rfl | rfl | rfl | rfl <;> simp [dgF]
theorem Dg.set4 (h : Dg w p g) (b : Bool) : Dg (w.setCell ⟨p, 0 + 4, none⟩ (.bool b)) p ⟨g.first, b, g.mean, g.spread, g.late⟩ := (World.rowIs.set h 4 _).congr fun i hi => by
  have : i = 0 ∨ i = 1 ∨ i = 2 ∨ i = 3 ∨ i = 4 := by omega
  rcases this with rfl | rfl | rfl | rfl | rfl <;> simp [dgF]
end

theorem newdg_any (f : Int) (w : World) : Calls Try.prog 57 #[.int .i64 f] w fun e w' => e = .returned (.pointer (some ⟨w.heap.size, 0, none⟩)) ∧ Dg w' w.heap.size (Gs.new f) ∧ Below w.heap.size w w' ∧ w'.heap.size = w.heap.size + 1 := by
  have e : Gs.new f = ⟨clampI f 1 64, false, 0, 0, 0⟩ := rfl
  rw [e]
  go_enter Try.func57, Try.ntmps57
  go_wp2_with (go_at_call 73; refine (rclamp_any _ _ _ _).mono ?_; rintro e w' ⟨rfl, rfl⟩)
  go_ret
  refine ⟨rfl, ?_, (Below.refl _ _).alloc (Nat.le_refl _) _, by simp⟩
  exact World.rowIs_alloc w _ _ _ (fun i hi => by
    have : i < 5 := hi
    match i, this with
    | 0, _ | 1, _ | 2, _ | 3, _ | 4, _ => rfl)

section
variable {w : World} {p : Nat} {g : Gs}
theorem dglate_any (h : Dg w p g) (hok : g.ok) : Calls Try.prog 64 #[.pointer (some ⟨p, 0, none⟩)] w fun e w' => e = .returned (.tuple #[]) ∧ Dg w' p g.later ∧ w.grownBy w' (some p) := by
  have c3 := h.c3
  have f3 := h.fr (0 + 3)
  have hl := hok.l
  have H := Lib.hid h
  obtain ⟨k, hk⟩ : ∃ k, g.late = k := ⟨_, rfl⟩
  rw [hk] at c3 hl
  have hm := run_min2 ((k : Int) + 1) 6 ((min (k + 1) 6 : Nat) : Int) (by omega)
  have hgl : g.later = ⟨g.first, g.sm, g.mean, g.spread, min (k + 1) 6⟩ := by unfold Gs.later; rw [hk]
  rw [hgl]
  obtain ⟨m, hm'⟩ : ∃ m, min (k + 1) 6 = m := ⟨_, rfl⟩
  rw [hm'] at hm ⊢
  clear hm' hgl h hk
  go_enter Try.func64, Try.ntmps64
  go_wp2
  go_end0
  exact ⟨rfl, H.out.set3 _ _ rfl, setCell_one _ _ _ _⟩

set_option maxHeartbeats 400000 in
theorem dgsample_any (n : Int) (h : Dg w p g) (hok : g.ok) : Calls Try.prog 60 #[.pointer (some ⟨p, 0, none⟩), .int .i64 n] w fun e w' => e = .returned (.tuple #[]) ∧ Dg w' p (g.sample n) ∧ w.grownBy w' (some p) := by
  have hcl := fun w => rclamp_any n 0 1048576 w
  have hs : g.sample n = ⟨g.first, true, g.mn (clampI n 0 1048576), g.sp (clampI n 0 1048576), 0⟩ := rfl
  rw [hs]
  have c1 := clampI_ge (n := n) (lo := 0) (hi := 1048576) (by decide)
  have c2 := clampI_le n 0 1048576
  obtain ⟨N, hN⟩ : ∃ N, clampI n 0 1048576 = N := ⟨_, rfl⟩
  rw [hN] at hcl c1 c2 ⊢
  clear hN hs
  have HC := Lib.hid hcl
  have m1 := hok.m1
  have m2 := hok.m2
  have s1 := hok.s1
  have s2 := hok.s2
  obtain ⟨first, sm, mean, spread, late⟩ := g
  simp only at m1 m2 s1 s2
  clear hok hcl
  have h3 := h.set3 0 0 rfl
  have H := Lib.hid h3
  have e0 := h.c3
  have f0 := h.fr (0 + 3)
  have HG := Lib.hid (setCell_one w p (0 + 3) (.int .i64 0))
  obtain ⟨w3, hw3⟩ : ∃ w3, w.setCell ⟨p, 0 + 3, none⟩ (.int .i64 0) = w3 := ⟨_, rfl⟩
  have e1 := h3.c1
  have e2 := h3.c2
  have e4 := h3.c4
  have f1 := h3.fr (0 + 1)
  have f2 := h3.fr (0 + 2)
  have f4 := h3.fr (0 + 4)
  rw [hw3] at H HG e1 e2 e4 f1 f2 f4
  simp only at e0 e1 e2 e4
  clear h h3
  cases sm
  · go_enter Try.func60, Try.ntmps60
    go_wp2_with (go_at_call 73; refine (HC.out _).mono ?_; rintro e w' ⟨rfl, rfl⟩)
    refine bodyPost_ret (results_none rfl _ _ _) rfl ?_
    exact ⟨rfl, ((H.out.set4 true).set1 N).set2 (N / 2), ((HG.out.trans (setCell_one _ _ _ _)).trans (setCell_one _ _ _ _)).trans (setCell_one _ _ _ _)⟩
  · go_enter Try.func60, Try.ntmps60
    obtain ⟨d, hd⟩ : ∃ d, max (mean - N) (N - mean) = d := ⟨_, rfl⟩
    have d1 : 0 ≤ d := by omega
    have d2 : d ≤ 1048576 := by omega
    obtain ⟨s', hs'⟩ : ∃ s', (3 * spread + d) / 4 = s' := ⟨_, rfl⟩
    have t1 : 0 ≤ s' := by omega
    have t2 : s' ≤ 1048576 := by omega
    have HS := Lib.hid hs'
    have HD := Lib.hid hd
    have hmn : (⟨first, true, mean, spread, late⟩ : Gs).mn N = (7 * mean + N) / 8 := rfl
    have hsp : (⟨first, true, mean, spread, late⟩ : Gs).sp N = s' := by rw [← HS.out, ← HD.out]; rfl
    rw [hmn, hsp]
    have HNEG := Lib.hid (show mean - N < 0 → -(mean - N) = d by omega)
    have HPOS := Lib.hid (show ¬ mean - N < 0 → mean - N = d by omega)
    clear hs' hd hmn hsp
    go_wp2_with (go_at_call 73; refine (HC.out _).mono ?_; rintro e w' ⟨rfl, rfl⟩)
    · go_end0
      rw [show (3 * spread + -(mean - N)) / 4 = s' by rw [HNEG.out (by assumption)]; exact HS.out]
      exact ⟨rfl, (H.out.set2 s').set1 _, (HG.out.trans (setCell_one _ _ _ _)).trans (setCell_one _ _ _ _)⟩
    · go_end0
      rw [show (3 * spread + (mean - N)) / 4 = s' by rw [HPOS.out (by omega)]; exact HS.out]
      exact ⟨rfl, (H.out.set2 s').set1 _, (HG.out.trans (setCell_one _ _ _ _)).trans (setCell_one _ _ _ _)⟩

set_option maxHeartbeats 400000 in
theorem dgwait_any (h : Dg w p g) (hok : g.ok) : Calls Try.prog 63 #[.pointer (some ⟨p, 0, none⟩)] w fun e w' => e = .returned (.int .i64 g.wait) ∧ ∃ k, w' = w.drewN k := by
  have HE := Lib.hid (fun (k : Nat) => (⟨(h.drewN k).c0, (h.drewN k).c1, (h.drewN k).c2, (h.drewN k).c3, (h.drewN k).c4⟩ : _ ∧ _ ∧ _ ∧ _ ∧ _))
  have hbs := Gs.base_ge hok
  have hl := hok.l
  have m1 := hok.m1
  have m2 := hok.m2
  have s1 := hok.s1
  have s2 := hok.s2
  have hmin := run_min2 (g.base * 2 ^ g.late) 64 g.wait rfl
  have hb : g.base = if g.sm then clampI (g.mean + max 1 (4 * g.spread)) 1 64 else g.first := rfl
  obtain ⟨K, hK⟩ : ∃ K, g.wait = K := ⟨_, rfl⟩
  rw [hK] at hmin ⊢
  obtain ⟨first, sm, mean, spread, L⟩ := g
  simp only at hbs hl m1 m2 s1 s2 hmin hb HE
  obtain ⟨B, hB⟩ : ∃ B, (⟨first, sm, mean, spread, L⟩ : Gs).base = B := ⟨_, rfl⟩
  rw [hB] at hmin hbs hb
  have HPW := Lib.hid (show ∀ i : Nat, i < L → wrap64 (B * 2 ^ i * 2) = B * 2 ^ (i + 1) ∧ wrap64 ((i : Int) + 1) = ((i + 1 : Nat) : Int) from fun i hi => by
    have hi6 : i = 0 ∨ i = 1 ∨ i = 2 ∨ i = 3 ∨ i = 4 ∨ i = 5 := by omega
    rcases hi6 with rfl | rfl | rfl | rfl | rfl | rfl <;> constructor <;> (unfold wrap64; omega))
  have hB0 : B * 2 ^ 0 = B := by omega
  clear hK hB h hok
  have HC3 := Lib.hid (fun k => (HE.out k).2.2.2.1)
  have e0 := (HE.out 0).1
  have e4 := (HE.out 0).2.2.2.2
  have e1 := (HE.out 0).2.1
  have e2 := (HE.out 0).2.2.1
  rw [show w.drewN 0 = w from rfl] at e0 e1 e2 e4
  clear HE
  cases sm
  · simp only [Bool.false_eq_true, if_false] at hb
    subst hb
    go_enter Try.func63, Try.ntmps63
    go_wp2_with fail
    go_loopw [3, 4] (fun pv iv wr => ∃ i : Nat, i ≤ L ∧ pv = .int .i64 (B * 2 ^ i) ∧ iv = .int .i64 i ∧ wr = w.drewN 0) (fun _ iv _ => L - (intOf iv).toNat)
    case atStart => exact ⟨0, by omega, by rw [hB0], rfl, rfl⟩
    case round =>
      obtain ⟨i, hi, rfl, rfl, rfl⟩ := hrel
      have c3 := HC3.out 0
      by_cases hin : i < L
      · have HI := Lib.hid hin
        obtain ⟨P, hP⟩ : ∃ P, B * 2 ^ i = P := ⟨_, rfl⟩
        have hw := (HPW.out i hin).1
        rw [hP] at hw ⊢
        have HW := Lib.hid hw
        have HIW := Lib.hid (HPW.out i hin).2
        have i1 : (i : Int) < (L : Int) := by omega
        have i2 : (0 : Int) ≤ (i : Int) := by omega
        clear hw hP hin hi
        go_wp2
        go_roundw
        case rel => exact ⟨i + 1, HI.out, by first | rfl | (rw [HW.out]), by first | rfl | (rw [HIW.out]) | go_num, by first | rfl | trivial⟩
        case measure => (try rw [HIW.out]); have := HI.out; simp [intOf]; omega
      · have : i = L := by omega
        subst this
        have i1 : ¬ ((i : Int) < (i : Int)) := by omega
        obtain ⟨P, hP⟩ : ∃ P, B * 2 ^ i = P := ⟨_, rfl⟩
        rw [hP] at hmin ⊢
        clear hP hi hin
        go_wp2
        go_ret
        exact ⟨rfl, 0, rfl⟩
  · simp only [if_true] at hb
    have hmax := run_max2 1 (4 * spread) _ rfl
    obtain ⟨M, hM⟩ : ∃ M, max 1 (4 * spread) = M := ⟨_, rfl⟩
    rw [hM] at hmax hb
    have n1 : 1 ≤ M := by omega
    have n2 : M ≤ 4194304 := by omega
    have hcl := fun w => rclamp_any (mean + M) 1 64 w
    rw [← hb] at hcl
    have HC := Lib.hid hcl
    clear hb hM hcl
    go_enter Try.func63, Try.ntmps63
    go_wp2_with fail
    go_quiet ((go_at_call 73; exact quiet_eq (HC.out _)))
    go_wp2_with fail
    go_loopw [3, 4] (fun pv iv wr => ∃ i : Nat, i ≤ L ∧ pv = .int .i64 (B * 2 ^ i) ∧ iv = .int .i64 i ∧ wr = w.drewN nq) (fun _ iv _ => L - (intOf iv).toNat)
    case atStart => exact ⟨0, by omega, by rw [hB0], rfl, rfl⟩
    case round =>
      obtain ⟨i, hi, rfl, rfl, rfl⟩ := hrel
      have c3 := HC3.out nq
      by_cases hin : i < L
      · have HI := Lib.hid hin
        obtain ⟨P, hP⟩ : ∃ P, B * 2 ^ i = P := ⟨_, rfl⟩
        have hw := (HPW.out i hin).1
        rw [hP] at hw ⊢
        have HW := Lib.hid hw
        have HIW := Lib.hid (HPW.out i hin).2
        have i1 : (i : Int) < (L : Int) := by omega
        have i2 : (0 : Int) ≤ (i : Int) := by omega
        clear hw hP hin hi
        go_wp2
        go_roundw
        case rel => exact ⟨i + 1, HI.out, by first | rfl | (rw [HW.out]), by first | rfl | (rw [HIW.out]) | go_num, by first | rfl | trivial⟩
        case measure => (try rw [HIW.out]); have := HI.out; simp [intOf]; omega
      · have : i = L := by omega
        subst this
        have i1 : ¬ ((i : Int) < (i : Int)) := by omega
        obtain ⟨P, hP⟩ : ∃ P, B * 2 ^ i = P := ⟨_, rfl⟩
        rw [hP] at hmin ⊢
        clear hP hi hin
        go_wp2
        go_ret
        exact ⟨rfl, _, rfl⟩
end
end Go.Proofs.Ytlkoenlimdfifaa
