/-
  What New, Ack, Loss, Size, Room and Clone of package cwnd, and the document's own Window, make of a window: contracts over the program. The two types have the same cells.
-/
import Derived.Test.YtciehckfdihphaaRows
import Derived.Test.YtciehckfdihphaaCwndMath
import Derived.Test.YtciehckfdihphaaOwn
import Derived.Test.YtciehckfdihphaaTail
import Derived.Deep.OwnRows
import Derived.Deep.QuietTactic
import Derived.Deep.RegionHeld3
import Derived.BigQuiet
import Derived.IntWalk
namespace Go.Proofs.Ytciehckfdihphaa
open Go.RowKit

theorem grown_drewN {w w' : World} {k : Nat} {r : Option Nat} (h : (w.drewN k).grownBy w' r) : w.grownBy w' r := ⟨h.os, h.tape, h.output, h.size, h.block⟩
theorem grown_drew {w w' : World} {r : Option Nat} (h : w.grownBy w' r) : w.grownBy w'.drew r := ⟨h.os, h.tape, h.output, h.size, h.block⟩
theorem run_max2 (a b K : Int) (hK : K = max a b) (ts : Array TypeId) (t : TypeId) (w : World) : (Builtin.max_ ts t #[.int .i64 a, .int .i64 b]).run Try.prog w = .ok (.int .i64 K) w := by
  rw [run_max_int2]
  congr 2
  split <;> omega
theorem run_min2 (a b K : Int) (hK : K = min a b) (ts : Array TypeId) (t : TypeId) (w : World) : (Builtin.min_ ts t #[.int .i64 a, .int .i64 b]).run Try.prog w = .ok (.int .i64 K) w := by
  rw [run_min_int2]
  congr 2
  split <;> omega

/-- The cells of a Window. -/
def wnF (g : Wn) (i : Nat) : Value := if i = 0 then .int .i64 g.most else if i = 1 then .int .i64 g.size else if i = 2 then .int .i64 g.turn else .int .i64 g.count
/-- Block p, of the type ty, is the Window g. -/
def WnA (ty : TypeId) (w : World) (p : Nat) (g : Wn) : Prop := w.rowIs p ty 4 (wnF g)

section
variable {ty : TypeId} {w w' : World} {p : Nat} {g : Wn}
theorem WnA.lt (h : WnA ty w p g) : p < w.heap.size := World.rowIs.lt h
theorem WnA.drewN (h : WnA ty w p g) (n : Nat) : WnA ty (w.drewN n) p g := h
theorem WnA.drew (h : WnA ty w p g) : WnA ty w.drew p g := h
theorem WnA.later (h : WnA ty w p g) (hb : Below w.heap.size w w') : WnA ty w' p g := World.rowIs.of_block h (hb.block p h.lt)
theorem WnA.other {q : Nat} (h : WnA ty w p g) (hne : p ≠ q) (hg : w.grownBy w' (some q)) : WnA ty w' p g := World.rowIs.of_block h (hg.block p h.lt (by simp; omega))
theorem WnA.c0 (h : WnA ty w p g) : w.cell? ⟨p, 0, none⟩ = some (.int .i64 g.most) := World.rowIs.cell (i := 0) h (by omega)
theorem WnA.c1 (h : WnA ty w p g) : w.cell? ⟨p, 0 + 1, none⟩ = some (.int .i64 g.size) := World.rowIs.cell (i := 1) h (by omega)
theorem WnA.c2 (h : WnA ty w p g) : w.cell? ⟨p, 0 + 2, none⟩ = some (.int .i64 g.turn) := World.rowIs.cell (i := 2) h (by omega)
theorem WnA.c3 (h : WnA ty w p g) : w.cell? ⟨p, 0 + 3, none⟩ = some (.int .i64 g.count) := World.rowIs.cell (i := 3) h (by omega)
theorem WnA.fr (h : WnA ty w p g) (i : Nat) : w.frozen? ⟨p, i, none⟩ = false := World.rowIs.frozen h i
theorem WnA.set1 (h : WnA ty w p g) (x : Int) : WnA ty (w.setCell ⟨p, 0 + 1, none⟩ (.int .i64 x)) p ⟨g.most, x, g.turn, g.count⟩ := (h.set 1 _).congr fun i hi => by
  have : i = 0 ∨ i = 1 ∨ i = 2 ∨ i = 3 := by omega
  rcases this with rfl | rfl | rfl | rfl <;> simp [wnF]
theorem WnA.set2 (h : WnA ty w p g) (x : Int) : WnA ty (w.setCell ⟨p, 0 + 2, none⟩ (.int .i64 x)) p ⟨g.most, g.size, x, g.count⟩ := (h.set 2 _).congr fun i hi => by
  have : i = 0 ∨ i = 1 ∨ i = 2 ∨ i = 3 := by omega
  rcases this with rfl | rfl | rfl | rfl <;> simp [wnF]
theorem WnA.set3 (h : WnA ty w p g) (x : Int) : WnA ty (w.setCell ⟨p, 0 + 3, none⟩ (.int .i64 x)) p ⟨g.most, g.size, g.turn, x⟩ := (h.set 3 _).congr fun i hi => by
  have : i = 0 ∨ i = 1 ∨ i = 2 ∨ i = 3 := by omega
  rcases this with rfl | rfl | rfl | rfl <;> simp [wnF]
end
/-- What a call on a Window of the call's own turns. -/
theorem own_grown {w w1 w2 : World} {b : Nat} (hb : Below w.heap.size w w1) (hg : w1.grownBy w2 (some b)) (h : w.heap.size ≤ b) : Below w.heap.size w w2 := hb.grown hg hb.size (by intro g hg; simp at hg; omega)

abbrev Wi := WnA 38

theorem newwi_any (m : Int) (w : World) : Calls Try.prog 8 #[.int .i64 m] w fun e w' => e = .returned (.pointer (some ⟨w.heap.size, 0, none⟩)) ∧ Wi w' w.heap.size (Wn.new m) ∧ Below w.heap.size w w' ∧ w'.heap.size = w.heap.size + 1 := by
  have hm := run_max2 m 1 _ rfl
  obtain ⟨M, hM⟩ : ∃ M, max m 1 = M := ⟨_, rfl⟩
  rw [hM] at hm
  have hn := run_min2 M 16 _ rfl
  obtain ⟨K, hK⟩ : ∃ K, min M 16 = K := ⟨_, rfl⟩
  rw [hK] at hn
  have ht := run_min2 2 K _ rfl
  obtain ⟨S, hS⟩ : ∃ S, min 2 K = S := ⟨_, rfl⟩
  rw [hS] at ht
  have e : Wn.new m = ⟨K, S, K, 0⟩ := by unfold Wn.new clampI; rw [hM, hK, hS]
  rw [e]
  clear e hM hK hS
  go_enter Try.func8, Try.ntmps8
  go_wp2
  go_ret
  refine ⟨rfl, ?_, (Below.refl _ _).alloc (Nat.le_refl _) _, by simp⟩
  exact World.rowIs_alloc w _ _ _ (fun i hi => by
    have : i < 4 := hi
    match i, this with
    | 0, _ | 1, _ | 2, _ | 3, _ => rfl)

section
variable {w : World} {p : Nat} {g : Wn}
theorem size_any (h : Wi w p g) : Calls Try.prog 10 #[.pointer (some ⟨p, 0, none⟩)] w fun e w' => e = .returned (.int .i64 g.size) ∧ w = w' := by
  have c1 := h.c1
  clear h
  go_enter Try.func10, Try.ntmps10
  go_wp2
  go_ret
  exact ⟨rfl, rfl⟩

theorem loss_any (h : Wi w p g) (hok : g.ok) : Calls Try.prog 11 #[.pointer (some ⟨p, 0, none⟩)] w fun e w' => e = .returned (.tuple #[]) ∧ Wi w' p g.loss ∧ w.grownBy w' (some p) := by
  have c1 := h.c1
  have c2 := h.c2
  have c3 := h.c3
  have f1 := h.fr (0 + 1)
  have f2 := h.fr (0 + 2)
  have f3 := h.fr (0 + 3)
  have s1 := hok.s1
  have s2 := hok.s2
  have m2 := hok.m2
  have hgl : g.loss = ⟨g.most, max (g.size / 2) 1, max (g.size / 2) 1, 0⟩ := rfl
  rw [hgl]
  have H := Lib.hid h
  obtain ⟨S, hS⟩ : ∃ S, g.size = S := ⟨_, rfl⟩
  rw [hS] at c1 s1 s2 ⊢
  have q := Int.tdiv_eq_ediv_of_nonneg (a := S) (b := 2) (by omega)
  obtain ⟨D, hD⟩ : ∃ D, S / 2 = D := ⟨_, rfl⟩
  rw [hD] at q ⊢
  have hm := run_max2 D 1 _ rfl
  have d1 : 0 ≤ D := by omega
  have d2 : D ≤ 8 := by omega
  obtain ⟨T, hT⟩ : ∃ T, max D 1 = T := ⟨_, rfl⟩
  rw [hT] at hm ⊢
  clear hT hD hS h hok hgl
  go_enter Try.func11, Try.ntmps11
  go_wp2
  go_end0
  exact ⟨rfl, ((H.out.set2 T).set1 T).set3 0, ((setCell_one _ _ _ _).trans (setCell_one _ _ _ _)).trans (setCell_one _ _ _ _)⟩

theorem room_any (n : Int) (h : Wi w p g) : Calls Try.prog 17 #[.pointer (some ⟨p, 0, none⟩), .int .i64 n] w fun e w' => e = .returned (.bool (decide (n < g.size))) ∧ w = w' := by
  have c1 := h.c1
  clear h
  go_enter Try.func17, Try.ntmps17
  go_wp2
  go_ret
  exact ⟨rfl, rfl⟩

theorem clonewi_any (h : Wi w p g) : Calls Try.prog 12 #[.pointer (some ⟨p, 0, none⟩)] w fun e w' => e = .returned (.pointer (some ⟨w.heap.size, 0, none⟩)) ∧ Wi w' w.heap.size g ∧ Below w.heap.size w w' ∧ w'.heap.size = w.heap.size + 1 := by
  have e0 := h.c0
  have e1 := h.c1
  have e2 := h.c2
  have e3 := h.c3
  clear h
  go_enter Try.func12, Try.ntmps12
  go_wp2
  go_ret
  refine ⟨rfl, ?_, (Below.refl _ _).alloc (Nat.le_refl _) _, by simp⟩
  exact World.rowIs_alloc w _ _ _ (fun i hi => by
    have : i < 4 := hi
    match i, this with
    | 0, _ | 1, _ | 2, _ | 3, _ => rfl)

set_option maxHeartbeats 400000 in
theorem ack_any (h : Wi w p g) (hok : g.ok) : Calls Try.prog 9 #[.pointer (some ⟨p, 0, none⟩)] w fun e w' => e = .returned (.tuple #[]) ∧ Wi w' p g.ack ∧ w.grownBy w' (some p) := by
  obtain ⟨most, size, turn, count⟩ := g
  obtain ⟨m1, m2, s1, s2, t1, t2, k1, k2⟩ := hok
  simp only at m1 m2 s1 s2 t1 t2 k1 k2
  have H := Lib.hid h
  have e0 := h.c0
  have e1 := h.c1
  have e2 := h.c2
  have e3 := h.c3
  have f1 := h.fr (0 + 1)
  have f3 := h.fr (0 + 3)
  simp only at e0 e1 e2 e3
  clear h
  have hm := run_min2 (size + 1) most _ rfl
  by_cases hlt : size < turn
  · have hg : (⟨most, size, turn, count⟩ : Wn).ack = ⟨most, size + 1, turn, count⟩ := if_pos hlt
    rw [hg]
    have hS : min (size + 1) most = size + 1 := by omega
    rw [hS] at hm
    clear hg hS
    go_enter Try.func9, Try.ntmps9
    go_wp2_with fail
    go_region
    all_goals
      go_wp2
      refine bodyPost_ret (results_none rfl _ _ _) rfl ?_
      exact ⟨rfl, (H.out.set1 _).drew, grown_drew (setCell_one _ _ _ _)⟩
  · by_cases heq : count + 1 = size
    · have hg : (⟨most, size, turn, count⟩ : Wn).ack = ⟨most, min (size + 1) most, turn, 0⟩ := by
        unfold Wn.ack
        rw [if_neg hlt, if_pos heq]
      rw [hg]
      obtain ⟨S, hS⟩ : ∃ S, min (size + 1) most = S := ⟨_, rfl⟩
      rw [hS] at hm ⊢
      clear hg hS
      go_enter Try.func9, Try.ntmps9
      go_wp2_with fail
      go_region
      all_goals
        go_wp2
        go_region
        all_goals
          go_wp2
          go_region
          all_goals
            first
            | go_end0
              first
              | exact ⟨rfl, ((((H.out.drew.set3 _).drew.set1 S).set3 0)).drew, grown_drew (((grown_drew ((grown_drew (setCell_one _ _ _ _)))).trans (setCell_one _ _ _ _)).trans (setCell_one _ _ _ _))⟩
    · have hg : (⟨most, size, turn, count⟩ : Wn).ack = ⟨most, size, turn, count + 1⟩ := by
        unfold Wn.ack
        rw [if_neg hlt, if_neg heq]
      rw [hg]
      have hgt : ¬ (count + 1 ≥ size) := by omega
      clear hg hm
      go_enter Try.func9, Try.ntmps9
      go_wp2_with fail
      go_region
      all_goals
        go_wp2
        go_region
        all_goals
          go_wp2
          go_end0
          exact ⟨rfl, (H.out.set3 _).drew.drew, grown_drew (grown_drew (setCell_one _ _ _ _))⟩
end

/-- The document's own Window. -/
abbrev Rw := WnA 33

theorem rclamp_any (n lo hi : Int) (w : World) : Calls Try.prog 18 #[.int .i64 n, .int .i64 lo, .int .i64 hi] w fun e w' => e = .returned (.int .i64 (clampI n lo hi)) ∧ w = w' := by
  have hm := run_max2 n lo _ rfl
  obtain ⟨M, hM⟩ : ∃ M, max n lo = M := ⟨_, rfl⟩
  rw [hM] at hm
  have hn := run_min2 M hi _ rfl
  obtain ⟨K, hK⟩ : ∃ K, min M hi = K := ⟨_, rfl⟩
  rw [hK] at hn
  have e : clampI n lo hi = K := by unfold clampI; rw [hM, hK]
  rw [e]
  clear e hM hK
  go_enter Try.func18, Try.ntmps18
  go_wp2
  go_ret
  exact ⟨rfl, rfl⟩

theorem newrw_any (m : Int) (w : World) : Calls Try.prog 14 #[.int .i64 m] w fun e w' => e = .returned (.pointer (some ⟨w.heap.size, 0, none⟩)) ∧ Rw w' w.heap.size (Wn.new m) ∧ Below w.heap.size w w' ∧ w'.heap.size = w.heap.size + 1 := by
  have hcl := Lib.hid (fun w => rclamp_any m 1 16 w)
  unfold Wn.new
  obtain ⟨K, hK⟩ : ∃ K, clampI m 1 16 = K := ⟨_, rfl⟩
  rw [hK] at hcl ⊢
  have ht := run_min2 2 K _ rfl
  obtain ⟨S, hS⟩ : ∃ S, min 2 K = S := ⟨_, rfl⟩
  rw [hS] at ht ⊢
  clear hK hS
  go_enter Try.func14, Try.ntmps14
  go_wp2_with (go_at_call 18; refine (hcl.out _).mono ?_; rintro e w' ⟨rfl, rfl⟩)
  go_ret
  refine ⟨rfl, ?_, (Below.refl _ _).alloc (Nat.le_refl _) _, by simp⟩
  exact World.rowIs_alloc w _ _ _ (fun i hi => by
    have : i < 4 := hi
    match i, this with
    | 0, _ | 1, _ | 2, _ | 3, _ => rfl)

section
variable {w : World} {p : Nat} {g : Wn}
theorem rloss_any (h : Rw w p g) (hok : g.ok) : Calls Try.prog 16 #[.pointer (some ⟨p, 0, none⟩)] w fun e w' => e = .returned (.tuple #[]) ∧ Rw w' p g.loss ∧ w.grownBy w' (some p) := by
  have c1 := h.c1
  have c2 := h.c2
  have c3 := h.c3
  have f1 := h.fr (0 + 1)
  have f2 := h.fr (0 + 2)
  have f3 := h.fr (0 + 3)
  have s1 := hok.s1
  have s2 := hok.s2
  have m2 := hok.m2
  have hgl : g.loss = ⟨g.most, max (g.size / 2) 1, max (g.size / 2) 1, 0⟩ := rfl
  rw [hgl]
  have H := Lib.hid h
  obtain ⟨S, hS⟩ : ∃ S, g.size = S := ⟨_, rfl⟩
  rw [hS] at c1 s1 s2 ⊢
  have q := Int.tdiv_eq_ediv_of_nonneg (a := S) (b := 2) (by omega)
  obtain ⟨D, hD⟩ : ∃ D, S / 2 = D := ⟨_, rfl⟩
  rw [hD] at q ⊢
  have hm := run_max2 D 1 _ rfl
  have d1 : 0 ≤ D := by omega
  have d2 : D ≤ 8 := by omega
  obtain ⟨T, hT⟩ : ∃ T, max D 1 = T := ⟨_, rfl⟩
  rw [hT] at hm ⊢
  clear hT hD hS h hok hgl
  go_enter Try.func16, Try.ntmps16
  go_wp2
  go_end0
  exact ⟨rfl, ((H.out.set2 T).set1 T).set3 0, ((setCell_one _ _ _ _).trans (setCell_one _ _ _ _)).trans (setCell_one _ _ _ _)⟩

set_option maxHeartbeats 400000 in
theorem rack_any (h : Rw w p g) (hok : g.ok) : Calls Try.prog 15 #[.pointer (some ⟨p, 0, none⟩)] w fun e w' => e = .returned (.tuple #[]) ∧ Rw w' p g.ack ∧ w.grownBy w' (some p) := by
  obtain ⟨most, size, turn, count⟩ := g
  obtain ⟨m1, m2, s1, s2, t1, t2, k1, k2⟩ := hok
  simp only at m1 m2 s1 s2 t1 t2 k1 k2
  have H := Lib.hid h
  have e0 := h.c0
  have e1 := h.c1
  have e2 := h.c2
  have e3 := h.c3
  have f1 := h.fr (0 + 1)
  have f3 := h.fr (0 + 3)
  simp only at e0 e1 e2 e3
  clear h
  have hm := run_min2 (size + 1) most _ rfl
  by_cases hlt : size < turn
  · have hg : (⟨most, size, turn, count⟩ : Wn).ack = ⟨most, size + 1, turn, count⟩ := if_pos hlt
    rw [hg]
    have hS : min (size + 1) most = size + 1 := by omega
    rw [hS] at hm
    clear hg hS
    go_enter Try.func15, Try.ntmps15
    go_wp2_with fail
    go_region
    all_goals
      go_wp2
      go_region
      all_goals
        go_wp2
        refine bodyPost_ret (results_none rfl _ _ _) rfl ?_
        exact ⟨rfl, (H.out.set1 _).drew.drew, grown_drew (grown_drew (setCell_one _ _ _ _))⟩
  · by_cases heq : count + 1 = size
    · have hg : (⟨most, size, turn, count⟩ : Wn).ack = ⟨most, min (size + 1) most, turn, 0⟩ := by
        unfold Wn.ack
        rw [if_neg hlt, if_pos heq]
      rw [hg]
      obtain ⟨S, hS⟩ : ∃ S, min (size + 1) most = S := ⟨_, rfl⟩
      rw [hS] at hm ⊢
      clear hg hS
      go_enter Try.func15, Try.ntmps15
      go_wp2_with fail
      go_region
      all_goals
        go_wp2
        go_region
        all_goals
          go_wp2
          go_region
          all_goals
            first
            | go_end0
              first
              | exact ⟨rfl, ((((H.out.drew.set3 _).drew.set1 S).set3 0)).drew, grown_drew (((grown_drew ((grown_drew (setCell_one _ _ _ _)))).trans (setCell_one _ _ _ _)).trans (setCell_one _ _ _ _))⟩
    · have hg : (⟨most, size, turn, count⟩ : Wn).ack = ⟨most, size, turn, count + 1⟩ := by
        unfold Wn.ack
        rw [if_neg hlt, if_neg heq]
      rw [hg]
      have hgt : ¬ (count + 1 ≥ size) := by omega
      clear hg hm
      go_enter Try.func15, Try.ntmps15
      go_wp2_with fail
      go_region
      all_goals
        go_wp2
        go_region
        all_goals
          go_wp2
          go_end0
          exact ⟨rfl, (H.out.set3 _).drew.drew, grown_drew (grown_drew (setCell_one _ _ _ _))⟩
end

set_option maxHeartbeats 400000 in
theorem wakesW_any (w : World) : Calls Try.prog 13 #[] w fun e w' => e = .returned (.bool true) ∧ Below w.heap.size w w' := by
  have HN := Lib.hid (newwi_any 9 w)
  go_enter Try.func13, Try.ntmps13
  go_wp2_with fail
  refine HN.out.mono ?_
  rintro e w1 ⟨rfl, h1, b1, z1⟩
  have H1 := Lib.hid h1
  have B1 := Lib.hid b1
  clear h1 b1 z1
  have HS := size_any H1.out
  rw [show (Wn.new 9).size = 2 from rfl] at HS
  have HR1 := room_any 1 H1.out
  rw [show decide (1 < (Wn.new 9).size) = true from rfl] at HR1
  have HR2 := room_any 2 H1.out
  rw [show decide (2 < (Wn.new 9).size) = false from rfl] at HR2
  have HS' := Lib.hid HS
  have HR1' := Lib.hid HR1
  have HR2' := Lib.hid HR2
  clear HS HR1 HR2
  go_wp2_with fail
  refine HS'.out.mono ?_
  rintro e w2 ⟨rfl, rfl⟩
  go_wp2_with fail
  refine HR1'.out.mono ?_
  rintro e w2 ⟨rfl, rfl⟩
  go_wp2_with fail
  refine HR2'.out.mono ?_
  rintro e w2 ⟨rfl, rfl⟩
  go_wp2
  go_ret
  exact ⟨rfl, B1.out⟩
end Go.Proofs.Ytciehckfdihphaa
