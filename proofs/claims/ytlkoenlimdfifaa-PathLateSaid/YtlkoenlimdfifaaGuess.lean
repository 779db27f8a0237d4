/-
  What New, Sample, Late, Wait and Mean of package rtt make of a Guess: contracts over the program.
-/
import Derived.Test.YtlkoenlimdfifaaRows
import Derived.Test.YtlkoenlimdfifaaRttMath
import Derived.Test.YtlkoenlimdfifaaOwn
import Derived.Test.YtlkoenlimdfifaaSmall
import Derived.Test.YtlkoenlimdfifaaMinMax
import Derived.Test.YtlkoenlimdfifaaTail
import Derived.Deep.OwnRows
import Derived.Deep.QuietTactic
import Derived.Deep.RegionHeld3
import Derived.BigQuiet
import Derived.IntWalk
namespace Go.Proofs.Ytlkoenlimdfifaa
open Go.RowKit

/-- The cells of a Guess. -/
def guF (g : Gs) (i : Nat) : Value := if i = 0 then .int .i64 g.first else if i = 1 then .bool g.sm else if i = 2 then .int .i64 g.mean else if i = 3 then .int .i64 g.spread else .int .i64 (g.late : Nat)
/-- Block p is the Guess g. -/
def Gu (w : World) (p : Nat) (g : Gs) : Prop := w.rowIs p 88 5 (guF g)

section
variable {w w' : World} {p : Nat} {g : Gs}
theorem Gu.lt (h : Gu w p g) : p < w.heap.size := World.rowIs.lt h
theorem Gu.drewN (h : Gu w p g) (n : Nat) : Gu (w.drewN n) p g := h
theorem Gu.drew (h : Gu w p g) : Gu w.drew p g := h
theorem Gu.later (h : Gu w p g) (hb : Below w.heap.size w w') : Gu w' p g := World.rowIs.of_block h (hb.block p h.lt)
theorem Gu.other {q : Nat} (h : Gu w p g) (hne : p ≠ q) (hg : w.grownBy w' (some q)) : Gu w' p g := World.rowIs.of_block h (hg.block p h.lt (by simp; omega))
theorem Gu.c0 (h : Gu w p g) : w.cell? ⟨p, 0, none⟩ = some (.int .i64 g.first) := World.rowIs.cell (i := 0) h (by omega)
theorem Gu.c1 (h : Gu w p g) : w.cell? ⟨p, 0 + 1, none⟩ = some (.bool g.sm) := World.rowIs.cell (i := 1) h (by omega)
theorem Gu.c2 (h : Gu w p g) : w.cell? ⟨p, 0 + 2, none⟩ = some (.int .i64 g.mean) := World.rowIs.cell (i := 2) h (by omega)
theorem Gu.c3 (h : Gu w p g) : w.cell? ⟨p, 0 + 3, none⟩ = some (.int .i64 g.spread) := World.rowIs.cell (i := 3) h (by omega)
theorem Gu.c4 (h : Gu w p g) : w.cell? ⟨p, 0 + 4, none⟩ = some (.int .i64 (g.late : Nat)) := World.rowIs.cell (i := 4) h (by omega)
theorem Gu.fr (h : Gu w p g) (i : Nat) : w.frozen? ⟨p, i, none⟩ = false := World.rowIs.frozen h i
theorem Gu.set1 (h : Gu w p g) (b : Bool) : Gu (w.setCell ⟨p, 0 + 1, none⟩ (.bool b)) p ⟨g.first, b, g.mean, g.spread, g.late⟩ := (h.set 1 _).congr fun i hi => by
  have : i = 0 ∨ i = 1 ∨ i = 2 ∨ i = 3 ∨ i = 4 := by omega
  rcases this with rfl | rfl | rfl | rfl | rfl <;> simp [guF]
theorem Gu.set2 (h : Gu w p g) (x : Int) : Gu (w.setCell ⟨p, 0 + 2, none⟩ (.int .i64 x)) p ⟨g.first, g.sm, x, g.spread, g.late⟩ := (h.set 2 _).congr fun i hi => by
  have : i = 0 ∨ i = 1 ∨ i = 2 ∨ i = 3 ∨ i = 4 := by omega
  rcases this with rfl | rfl | rfl | rfl | rfl <;> simp [guF]
theorem Gu.set3 (h : Gu w p g) (x : Int) : Gu (w.setCell ⟨p, 0 + 3, none⟩ (.int .i64 x)) p ⟨g.first, g.sm, g.mean, x, g.late⟩ := (h.set 3 _).congr fun i hi => by
  have : i = 0 ∨ i = 1 ∨ i = 2 ∨ i = 3 ∨ i = 4 := by omega
  rcases this with rfl | rfl | rfl | rfl | rfl <;> simp [guF]
theorem Gu.set4 (h : Gu w p g) (x : Int) (k : Nat) (hx : x = (k : Int)) : Gu (w.setCell ⟨p, 0 + 4, none⟩ (.int .i64 x)) p ⟨g.first, g.sm, g.mean, g.spread, k⟩ := (h.set 4 _).congr fun i hi => by
  subst hx
  have : i = 0 ∨ i = 1 ∨ i = 2 ∨ i = 3 ∨ i = 4 := by omega
  rcases this with rfl | rfl | rfl | rfl | rfl <;> simp [guF]
end

theorem rwithin_any (n lo hi : Int) (w : World) : Calls Try.prog 67 #[.int .i64 n, .int .i64 lo, .int .i64 hi] w fun e w' => e = .returned (.int .i64 (clampI n lo hi)) ∧ w = w' := by
  have hm := run_max2 n lo _ rfl
  obtain ⟨M, hM⟩ : ∃ M, max n lo = M := ⟨_, rfl⟩
  rw [hM] at hm
  have hn := run_min2 M hi _ rfl
  obtain ⟨K, hK⟩ : ∃ K, min M hi = K := ⟨_, rfl⟩
  rw [hK] at hn
  have e : clampI n lo hi = K := by unfold clampI; rw [hM, hK]
  rw [e]
  clear e hM hK
  go_enter Try.func67, Try.ntmps67
  go_wp2
  go_ret
  exact ⟨rfl, rfl⟩

theorem distance_any (a b : Int) (w : World) (h1 : 0 ≤ a) (h2 : a ≤ 1048576) (h3 : 0 ≤ b) (h4 : b ≤ 1048576) : Calls Try.prog 70 #[.int .i64 a, .int .i64 b] w fun e w' => e = .returned (.int .i64 (max (a - b) (b - a))) ∧ w = w' := by
  have hm := run_max2 (a - b) (b - a) _ rfl
  obtain ⟨M, hM⟩ : ∃ M, max (a - b) (b - a) = M := ⟨_, rfl⟩
  rw [hM] at hm ⊢
  clear hM
  go_enter Try.func70, Try.ntmps70
  go_wp2
  go_ret
  exact ⟨rfl, rfl⟩

theorem newgu_any (f : Int) (w : World) : Calls Try.prog 37 #[.int .i64 f] w fun e w' => e = .returned (.pointer (some ⟨w.heap.size, 0, none⟩)) ∧ Gu w' w.heap.size (Gs.new f) ∧ Below w.heap.size w w' ∧ w'.heap.size = w.heap.size + 1 := by
  have e : Gs.new f = ⟨clampI f 1 64, false, 0, 0, 0⟩ := rfl
  rw [e]
  go_enter Try.func37, Try.ntmps37
  go_wp2_with (go_at_call 67; refine (rwithin_any _ _ _ _).mono ?_; rintro e w' ⟨rfl, rfl⟩)
  go_ret
  refine ⟨rfl, ?_, (Below.refl _ _).alloc (Nat.le_refl _) _, by simp⟩
  exact World.rowIs_alloc w _ _ _ (fun i hi => by
    have : i < 5 := hi
    match i, this with
    | 0, _ | 1, _ | 2, _ | 3, _ | 4, _ => rfl)

section
variable {w : World} {p : Nat} {g : Gs}
theorem gumean_any (h : Gu w p g) : Calls Try.prog 44 #[.pointer (some ⟨p, 0, none⟩)] w fun e w' => e = .returned (.int .i64 g.mean) ∧ w = w' := by
  have c2 := h.c2
  clear h
  go_enter Try.func44, Try.ntmps44
  go_wp2
  go_ret
  exact ⟨rfl, rfl⟩

theorem gulate_any (h : Gu w p g) (hok : g.ok) : Calls Try.prog 55 #[.pointer (some ⟨p, 0, none⟩)] w fun e w' => e = .returned (.tuple #[]) ∧ Gu w' p g.later ∧ w.grownBy w' (some p) := by
  have c4 := h.c4
  have f4 := h.fr (0 + 4)
  have hl := hok.l
  have H := Lib.hid h
  obtain ⟨k, hk⟩ : ∃ k, g.late = k := ⟨_, rfl⟩
  rw [hk] at c4 hl
  have hm := run_min2 ((k : Int) + 1) 6 ((min (k + 1) 6 : Nat) : Int) (by omega)
  have hgl : g.later = ⟨g.first, g.sm, g.mean, g.spread, min (k + 1) 6⟩ := by unfold Gs.later; rw [hk]
  rw [hgl]
  obtain ⟨m, hm'⟩ : ∃ m, min (k + 1) 6 = m := ⟨_, rfl⟩
  rw [hm'] at hm ⊢
  clear hm' hgl h hk
  go_enter Try.func55, Try.ntmps55
  go_wp2
  go_end0
  exact ⟨rfl, H.out.set4 _ _ rfl, setCell_one _ _ _ _⟩

set_option maxHeartbeats 400000 in
theorem gusample_any (n : Int) (h : Gu w p g) (hok : g.ok) : Calls Try.prog 47 #[.pointer (some ⟨p, 0, none⟩), .int .i64 n] w fun e w' => e = .returned (.tuple #[]) ∧ Gu w' p (g.sample n) ∧ w.grownBy w' (some p) := by
  have hcl := fun w => rwithin_any n 0 1048576 w
  have hs : g.sample n = ⟨g.first, true, g.mn (clampI n 0 1048576), g.sp (clampI n 0 1048576), 0⟩ := rfl
  rw [hs]
  have c1 := clampI_ge (n := n) (lo := 0) (hi := 1048576) (by decide)
  have c2 := clampI_le n 0 1048576
  obtain ⟨N, hN⟩ : ∃ N, clampI n 0 1048576 = N := ⟨_, rfl⟩
  rw [hN] at hcl c1 c2 ⊢
  clear hN hs
  have HC := Lib.hid hcl
  have m1 := hok.m1
  have m2 := hok.m2
  have s1 := hok.s1
  have s2 := hok.s2
  obtain ⟨first, sm, mean, spread, late⟩ := g
  simp only at m1 m2 s1 s2
  clear hok hcl
  have H := Lib.hid h
  have e1 := h.c1
  have e2 := h.c2
  have e3 := h.c3
  have e4 := h.c4
  have f1 := h.fr (0 + 1)
  have f2 := h.fr (0 + 2)
  have f3 := h.fr (0 + 3)
  have f4 := h.fr (0 + 4)
  simp only at e1 e2 e3 e4
  clear h
  cases sm
  · go_enter Try.func47, Try.ntmps47
    go_wp2_with (go_at_call 67; refine (HC.out _).mono ?_; rintro e w' ⟨rfl, rfl⟩)
    go_end0
    exact ⟨rfl, (((H.out.set2 N).set3 (N / 2)).set1 true).set4 0 0 rfl, (((setCell_one _ _ _ _).trans (setCell_one _ _ _ _)).trans (setCell_one _ _ _ _)).trans (setCell_one _ _ _ _)⟩
  · go_enter Try.func47, Try.ntmps47
    go_wp2_with (go_at_call 67; refine (HC.out _).mono ?_; rintro e w' ⟨rfl, rfl⟩)
    have D := Lib.hid (fun w => distance_any mean N w m1 m2 c1 c2)
    obtain ⟨d, hd⟩ : ∃ d, max (mean - N) (N - mean) = d := ⟨_, rfl⟩
    rw [hd] at D
    have d1 : 0 ≤ d := by omega
    have d2 : d ≤ 1048576 := by omega
    have HD := Lib.hid hd
    clear hd
    have q1 := Lib.hid (show IntKind.i64.wrap (3 * spread) = 3 * spread from IntWalk.i64_in _ (by constructor <;> omega))
    have q2 := Lib.hid (show IntKind.i64.wrap (3 * spread + d) = 3 * spread + d from IntWalk.i64_in _ (by constructor <;> omega))
    have q3 := Lib.hid (show (3 * spread + d).tdiv 4 = (3 * spread + d) / 4 from Int.tdiv_eq_ediv_of_nonneg (by omega))
    obtain ⟨s', hs'⟩ : ∃ s', (3 * spread + d) / 4 = s' := ⟨_, rfl⟩
    have t1 : 0 ≤ s' := by omega
    have t2 : s' ≤ 1048576 := by omega
    have q4 := Lib.hid (show IntKind.i64.wrap s' = s' from IntWalk.i64_in _ (by constructor <;> omega))
    have HS := Lib.hid hs'
    clear hs'
    go_region_with (go_at_call 70; refine (D.out _).mono ?_; rintro e w' ⟨rfl, rfl⟩)
    all_goals
      rw [q1.out, q2.out, q3.out, HS.out, q4.out]
      go_wp2
      go_end0
      refine ⟨rfl, ?_, grown_drew ((((setCell_one _ _ _ _).trans (setCell_one _ _ _ _)).trans (setCell_one _ _ _ _)).trans (setCell_one _ _ _ _))⟩
      have hg := (((H.out.set3 s').set2 ((7 * mean + N) / 8)).set1 true).set4 0 0 rfl
      have hmn : (⟨first, true, mean, spread, late⟩ : Gs).mn N = (7 * mean + N) / 8 := rfl
      have hsp : (⟨first, true, mean, spread, late⟩ : Gs).sp N = s' := by rw [← HS.out, ← HD.out]; rfl
      rw [hmn, hsp]
      exact hg.drew

theorem guwait_any (h : Gu w p g) (hok : g.ok) : Calls Try.prog 51 #[.pointer (some ⟨p, 0, none⟩)] w fun e w' => e = .returned (.int .i64 g.wait) ∧ ∃ k, w' = w.drewN k := by
  have e0 := h.c0
  have e1 := h.c1
  have e2 := h.c2
  have e3 := h.c3
  have e4 := h.c4
  have hpr := Gs.prod hok
  have hbs := Gs.base_ge hok
  have hmin := run_min2 (g.base * 2 ^ g.late) 64 g.wait rfl
  obtain ⟨K, hK⟩ : ∃ K, g.wait = K := ⟨_, rfl⟩
  rw [hK] at hmin ⊢
  clear hK
  have hl := hok.l
  obtain ⟨L, hL⟩ : ∃ L, g.late = L := ⟨_, rfl⟩
  rw [hL] at hmin hpr hl e4
  have m1 := hok.m1
  have m2 := hok.m2
  have s1 := hok.s1
  have s2 := hok.s2
  have hb : g.base = if g.sm then clampI (g.mean + max 1 (4 * g.spread)) 1 64 else g.first := rfl
  obtain ⟨B, hB⟩ : ∃ B, g.base = B := ⟨_, rfl⟩
  rw [hB] at hmin hpr hbs hb
  have h3 := IntWalk.wrap64_in (B * 2 ^ L) (by constructor <;> omega)
  obtain ⟨P, hP⟩ : ∃ P, B * 2 ^ L = P := ⟨_, rfl⟩
  have hw : wrap64 (B * 2 ^ L) = P := h3.trans hP
  rw [hP] at hmin hpr
  clear h3
  clear hL hP hB h
  obtain ⟨first, sm, mean, spread, late⟩ := g
  simp only at e0 e1 e2 e3 m1 m2 s1 s2 hb
  clear hok
  cases sm
  · simp only [Bool.false_eq_true, if_false] at hb
    subst hb
    go_enter Try.func51, Try.ntmps51
    go_wp2
    go_ret
    exact ⟨rfl, 0, rfl⟩
  · simp only [if_true] at hb
    have hmax := run_max2 1 (4 * spread) _ rfl
    obtain ⟨M, hM⟩ : ∃ M, max 1 (4 * spread) = M := ⟨_, rfl⟩
    rw [hM] at hmax hb
    have n1 : 1 ≤ M := by omega
    have n2 : M ≤ 4194304 := by omega
    have hcl := fun w => rwithin_any (mean + M) 1 64 w
    rw [← hb] at hcl
    have HC := Lib.hid hcl
    clear hb hM hcl
    go_enter Try.func51, Try.ntmps51
    go_wp2_with fail
    go_quiet ((go_at_call 67; exact quiet_eq (HC.out _)))
    go_wp2
    go_ret
    exact ⟨rfl, _, rfl⟩
end
end Go.Proofs.Ytlkoenlimdfifaa
