/-
  The walk of EndJoins.
-/
import Derived.Test.YtpjlnpnadkbakaaGreatQBPrEvK
import Derived.Test.YtpjlnpnadkbakaaGreatQBZPrTwo
import Derived.Test.YtpjlnpnadkbakaaGreatQBZPrSame
import Derived.Deep.CutBlock
import Derived.Deep.DeepCutAuto
import Derived.Lib.SlBytesConst
namespace Go.Proofs.YtpjlnpnadkbakaaGreat
set_option maxRecDepth 10000
open Go.RowKit
def ejC (F : Nat) : Cg := ⟨((2 : Nat) : Int), 60, 50, 10, 4, (F : Int), 1⟩
def aT (F : Nat) : Nat → En
  | 0 => ((En.new (ejC F) 0).up 1).taken
  | n + 1 => ((aT F n).tick ((n + 1 : Nat) : Int)).taken
def bR (F : Nat) : Nat → En
  | 0 => ((En.new (ejC F) 1).up 1).taken
  | k + 1 => ((bR F k).comeC ⟨1, 1, (k : Int) + 1, 0, 0, [], false, 0, 0⟩).taken
def ejJ : Pkt := ⟨1, 1, 0, 0, 0, [], false, 0, 0⟩
def ejUB (F : Nat) : Bool := (ejC F).ok && (En.new (ejC F) 1).mayU 1 && decide (((En.new (ejC F) 1).up 1).out = []) && (En.new (ejC F) 0).mayU 1 && decide (((En.new (ejC F) 0).up 1).out = [ejJ])
theorem ejUA : (List.range 9).all (fun z => ejUB (z + 1)) = true := by kernel_rfl
theorem ejU (F : Nat) (h1 : 1 ≤ F) (h2 : F ≤ 9) : (ejC F).ok = true ∧ (En.new (ejC F) 1).mayU 1 = true ∧ ((En.new (ejC F) 1).up 1).out = [] ∧ (En.new (ejC F) 0).mayU 1 = true ∧ ((En.new (ejC F) 0).up 1).out = [⟨1, 1, 0, 0, 0, [], false, 0, 0⟩] := by
  have h := List.all_eq_true.1 ejUA (F - 1) (List.mem_range.2 (by omega))
  rw [show F - 1 + 1 = F by omega] at h
  simp only [ejUB, Bool.and_eq_true, decide_eq_true_eq] at h
  obtain ⟨⟨⟨⟨h0, h1⟩, h2⟩, h3⟩, h4⟩ := h
  exact ⟨h0, h1, h2, h3, h4⟩
def ejTB (F n : Nat) : Bool := (aT F n).mayT ((n + 1 : Nat) : Int) && decide (((aT F n).tick ((n + 1 : Nat) : Int)).out = if (n + 1) % F = 0 then [⟨1, 1, (((n + 1) / F : Nat) : Int), 0, 0, [], false, 0, 0⟩] else [])
theorem ejTA : (List.range 9).all (fun z => (List.range (4 * (z + 1))).all (fun n => ejTB (z + 1) n)) = true := by kernel_rfl
theorem ejTn (F n : Nat) (h1 : 1 ≤ F) (h2 : F ≤ 9) (hn : n < 4 * F) : (aT F n).mayT ((n + 1 : Nat) : Int) = true ∧ ((aT F n).tick ((n + 1 : Nat) : Int)).out = if (n + 1) % F = 0 then [⟨1, 1, (((n + 1) / F : Nat) : Int), 0, 0, [], false, 0, 0⟩] else [] := by
  have h := List.all_eq_true.1 (List.all_eq_true.1 ejTA (F - 1) (List.mem_range.2 (by omega))) n (List.mem_range.2 (by rw [show F - 1 + 1 = F by omega]; exact hn))
  rw [show F - 1 + 1 = F by omega] at h
  simp only [ejTB, Bool.and_eq_true, decide_eq_true_eq] at h
  exact h
theorem aT_next {F N M : Nat} (h : N + 1 = M) : ((aT F N).tick (M : Int)).taken = aT F M := by
  subst h
  rfl
theorem ejT (F k i N M : Nat) (h1 : 1 ≤ F) (h2 : F ≤ 9) (hk : k ≤ 3) (hi : i + 1 < F) (hN : N = k * F + i) (hM : N + 1 = M) : (aT F N).mayT (M : Int) = true ∧ ((aT F N).tick (M : Int)).out = [] := by
  have h3 : k * F ≤ 3 * F := Nat.mul_le_mul_right F hk
  have h := ejTn F N h1 h2 (by omega)
  rw [if_neg (by rw [show N + 1 = F * k + (i + 1) by rw [hN, Nat.mul_comm]; omega, Nat.mul_add_mod, Nat.mod_eq_of_lt hi]; omega), hM] at h
  exact h
def ejRB (F k : Nat) : Bool := (bR F k).mayC ⟨1, 1, (k : Int) + 1, 0, 0, [], false, 0, 0⟩ && decide (((bR F k).comeC ⟨1, 1, (k : Int) + 1, 0, 0, [], false, 0, 0⟩).out = [⟨2, 1, (k : Int), (k : Int) + 1, 0, [], false, 0, 0⟩])
theorem ejRA : (List.range 9).all (fun z => (List.range 4).all (fun k => ejRB (z + 1) k)) = true := by kernel_rfl
theorem ejR (F k N M : Nat) (h1 : 1 ≤ F) (h2 : F ≤ 9) (hk : k ≤ 3) (hM : N + 1 = M) (e : M = (k + 1) * F) : (aT F N).mayT (M : Int) = true ∧ ((aT F N).tick (M : Int)).out = [⟨1, 1, (k : Int) + 1, 0, 0, [], false, 0, 0⟩] ∧ (bR F k).mayC ⟨1, 1, (k : Int) + 1, 0, 0, [], false, 0, 0⟩ = true ∧ ((bR F k).comeC ⟨1, 1, (k : Int) + 1, 0, 0, [], false, 0, 0⟩).out = [⟨2, 1, (k : Int), (k : Int) + 1, 0, [], false, 0, 0⟩] := by
  have h3 : (k + 1) * F ≤ 4 * F := Nat.mul_le_mul_right F (by omega)
  have h := ejTn F N h1 h2 (by omega)
  rw [hM, e, if_pos (Nat.mul_mod_left _ _), Nat.mul_div_cancel _ (by omega), ← e] at h
  have h5 := List.all_eq_true.1 (List.all_eq_true.1 ejRA (F - 1) (List.mem_range.2 (by omega))) k (List.mem_range.2 (by omega))
  rw [show F - 1 + 1 = F by omega] at h5
  simp only [ejRB, Bool.and_eq_true, decide_eq_true_eq] at h5
  exact ⟨h.1, h.2, h5.1, h5.2⟩
def ej1 (F T : Nat) : En := ((aT F (T * F)).comeC ⟨2, 1, 0, (T : Int), 0, [], false, 0, 0⟩).taken
def ej2 (F T Q : Nat) : En := ((ej1 F T).tick (Q : Int)).taken
def ej3 (F T Q : Nat) : En := (((ej2 F T Q).down 1).comeC ⟨2, 1, 0, (T : Int), 0, [], false, 0, 0⟩).taken
def ej4 (F T Q : Nat) : En := ((ej3 F T Q).write [120]).taken
def ejZB (F T Q S : Nat) : Bool := ((aT F (T * F)).mayC ⟨2, 1, 0, (T : Int), 0, [], false, 0, 0⟩) && (decide (((aT F (T * F)).comeC ⟨2, 1, 0, (T : Int), 0, [], false, 0, 0⟩).out = [])) && ((ej1 F T).mayT (Q : Int)) && (decide (((ej1 F T).tick (Q : Int)).out = [])) && ((ej2 F T Q).mayD 1) && (!((ej2 F T Q).down 1).mayC ⟨2, 1, 0, (T : Int), 0, [], false, 0, 0⟩) && (decide ((((ej2 F T Q).down 1).comeC ⟨2, 1, 0, (T : Int), 0, [], false, 0, 0⟩).out = [])) && (decide ((ej3 F T Q).takes [120] = 1)) && (decide (((ej3 F T Q).write [120]).out = [])) && ((ej4 F T Q).mayU 1) && (decide (((ej4 F T Q).up 1).out = [⟨3, 1, (S : Int), 0, 0, [120], false, 0, 0⟩]))
theorem ejZA : (List.range 9).all (fun z => (List.range 4).all (fun k => ejZB (z + 1) (k + 1) ((k + 1) * (z + 1) + 50) (k + 2))) = true := by kernel_rfl
theorem ejZ (F T Q S : Nat) (h1 : 1 ≤ F) (h2 : F ≤ 9) (h3 : 1 ≤ T) (h4 : T ≤ 4) (hQ : T * F + 50 = Q) (hS : T + 1 = S) : (aT F (T * F)).mayC ⟨2, 1, 0, (T : Int), 0, [], false, 0, 0⟩ = true ∧ ((aT F (T * F)).comeC ⟨2, 1, 0, (T : Int), 0, [], false, 0, 0⟩).out = [] ∧ (ej1 F T).mayT (Q : Int) = true ∧ ((ej1 F T).tick (Q : Int)).out = [] ∧ (ej2 F T Q).mayD 1 = true ∧ ((ej2 F T Q).down 1).mayC ⟨2, 1, 0, (T : Int), 0, [], false, 0, 0⟩ = false ∧ (((ej2 F T Q).down 1).comeC ⟨2, 1, 0, (T : Int), 0, [], false, 0, 0⟩).out = [] ∧ (ej3 F T Q).takes [120] = 1 ∧ ((ej3 F T Q).write [120]).out = [] ∧ (ej4 F T Q).mayU 1 = true ∧ ((ej4 F T Q).up 1).out = [⟨3, 1, (S : Int), 0, 0, [120], false, 0, 0⟩] := by
  have h := List.all_eq_true.1 (List.all_eq_true.1 ejZA (F - 1) (List.mem_range.2 (by omega))) (T - 1) (List.mem_range.2 (by omega))
  rw [show F - 1 + 1 = F by omega, show T - 1 + 1 = T by omega, show T - 1 + 2 = S by omega, hQ] at h
  simp only [ejZB, Bool.and_eq_true, decide_eq_true_eq, Bool.not_eq_true'] at h
  obtain ⟨⟨⟨⟨⟨⟨⟨⟨⟨⟨h0, h1⟩, h2⟩, h3⟩, h4⟩, h5⟩, h6⟩, h7⟩, h8⟩, h9⟩, h10⟩ := h
  exact ⟨h0, h1, h2, h3, h4, h5, h6, h7, h8, h9, h10⟩
set_option maxHeartbeats 8000000 in
theorem endJoins_walk (n t : Int) (W : World) : Calls Tryz.prog 7 #[.int .i64 n, .int .i64 t] W fun e W' => e = .returned (.bool true) ∧ Below W.heap.size W W' := by
  have HW := Lib.hid (fun w => within_any n 9 w (by omega) (by omega))
  have HW4 := Lib.hid (fun w => within_any t 4 w (by omega) (by omega))
  obtain ⟨z, hz⟩ : ∃ z : Int, n % 9 = z := ⟨_, rfl⟩
  obtain ⟨F, hF⟩ : ∃ F : Nat, 1 + z = (F : Int) := ⟨(1 + z).toNat, by omega⟩
  obtain ⟨y, hy⟩ : ∃ z : Int, t % 4 = z := ⟨_, rfl⟩
  obtain ⟨T, hT⟩ : ∃ F : Nat, 1 + y = (F : Int) := ⟨(1 + y).toNat, by omega⟩
  have HF1 := Lib.hid (show 1 ≤ F by omega)
  have HF2 := Lib.hid (show F ≤ 9 by omega)
  have HT1 := Lib.hid (show 1 ≤ T by omega)
  have HT4 := Lib.hid (show T ≤ 4 by omega)
  have HB1 := Lib.hid (show wrap64 (1 + z) = (F : Int) ∧ IntKind.i64.wrap (1 + z) = (F : Int) from ⟨by unfold wrap64; omega, by rw [hF]; exact IntWalk.i64_in _ (by constructor <;> omega)⟩)
  have HB4 := Lib.hid (show wrap64 (1 + y) = (T : Int) ∧ IntKind.i64.wrap (1 + y) = (T : Int) from ⟨by unfold wrap64; omega, by rw [hT]; exact IntWalk.i64_in _ (by constructor <;> omega)⟩)
  rw [hz] at HW
  rw [hy] at HW4
  clear hz hF hy hT
  obtain ⟨r0, r1, r2, r3, r4⟩ := ejU F HF1.out HF2.out
  have HU := Lib.hid (show Cg.ok ⟨((2 : Nat) : Int), 60, 50, 10, 4, (F : Int), 1⟩ = true from r0)
  clear r0
  have kc := fun (w : World) (C : Array Value) (n c : Nat) => Lib.run_convert_bytes_const (P := Tryz.prog) w 29 5 C n c Tryz.underlying29 Tryz.underlying5
  go_enter Tryz.func7, Tryz.ntmps7
  go_wp2_with fail
  refine (plain_any _).mono ?_
  rintro e w1 ⟨rfl, hb1⟩
  obtain ⟨b1, hb1q⟩ : ∃ b, w1.heap.size = b := ⟨_, rfl⟩
  have hle : W.heap.size ≤ b1 := by rw [← hb1q]; exact hb1.size
  have hB2 : Below W.heap.size W (w1.alloc (.cells #[.int .i64 0, .int .i64 0, .int .i64 0, .int .i64 0, .int .i64 0, .int .i64 0, .int .i64 0] 26)) := hb1.alloc hb1.size _
  have hrow : (w1.alloc (.cells #[.int .i64 0, .int .i64 0, .int .i64 0, .int .i64 0, .int .i64 0, .int .i64 0, .int .i64 0] 26)).rowIs b1 tCf 7 (cfF ⟨0, 0, 0, 0, 0, 0, 0⟩) := by
    rw [← hb1q]
    exact World.rowIs_alloc w1 _ _ _ (fun i hi => by
      match i, hi with
      | 0, _ | 1, _ | 2, _ | 3, _ | 4, _ | 5, _ | 6, _ => rfl)
  obtain ⟨w2, hw2⟩ : ∃ w2, w1.alloc (.cells #[.int .i64 0, .int .i64 0, .int .i64 0, .int .i64 0, .int .i64 0, .int .i64 0, .int .i64 0] 26) = w2 := ⟨_, rfl⟩
  rw [hw2] at hB2 hrow
  have hrow3 := st7_row hrow ⟨2, 60, 50, 10, 4, 3, 1⟩
  have hB3 := hB2.grown (st7_grown w2 b1 ⟨2, 60, 50, 10, 4, 3, 1⟩) hB2.size (by intro g e; simp at e; omega)
  have f0 : ∀ i, w2.frozen? ⟨b1, i, none⟩ = false := World.rowIs.frozen hrow
  have x0 : w2.cell? ⟨b1, 0, none⟩ = some (.int .i64 0) := World.rowIs.cell (i := 0) hrow (by omega)
  have x1 : w2.cell? ⟨b1, 1, none⟩ = some (.int .i64 0) := World.rowIs.cell (i := 1) hrow (by omega)
  have x2 : w2.cell? ⟨b1, 2, none⟩ = some (.int .i64 0) := World.rowIs.cell (i := 2) hrow (by omega)
  have x3 : w2.cell? ⟨b1, 3, none⟩ = some (.int .i64 0) := World.rowIs.cell (i := 3) hrow (by omega)
  have x4 : w2.cell? ⟨b1, 4, none⟩ = some (.int .i64 0) := World.rowIs.cell (i := 4) hrow (by omega)
  have x5 : w2.cell? ⟨b1, 5, none⟩ = some (.int .i64 0) := World.rowIs.cell (i := 5) hrow (by omega)
  have x6 : w2.cell? ⟨b1, 6, none⟩ = some (.int .i64 0) := World.rowIs.cell (i := 6) hrow (by omega)
  clear hb1 hrow hB2
  go_upto_region 2 with (fail)
  change Code.wp _ _ _ _ (st7 w2 b1 ⟨2, 60, 50, 10, 4, 3, 1⟩)
  obtain ⟨wk, hwk⟩ : ∃ wk, st7 w2 b1 ⟨2, 60, 50, 10, 4, 3, 1⟩ = wk := ⟨_, rfl⟩
  rw [hwk] at hrow3 hB3 ⊢
  clear x0 x1 x2 x3 x4 x5 x6 f0 hwk hw2 w2 hb1q
  have f0 : ∀ i, wk.frozen? ⟨b1, i, none⟩ = false := World.rowIs.frozen hrow3
  have x6 : wk.cell? ⟨b1, 5, none⟩ = some (.int .i64 3) := World.rowIs.cell (i := 5) hrow3 (by omega)
  have HM := Lib.hid (And.intro hrow3 (And.intro hB3 hle))
  clear hrow3 hB3 hle
  go_wp2_with fail
  refine (HW.out _).mono ?_
  rintro e w' ⟨rfl, rfl⟩
  have hw2 := HB1.out.1
  have hw3 := HB1.out.2
  go_upto_region 3 with (fail)
  obtain ⟨hrow3, hB3, hle⟩ := HM.out
  have hrow4 := World.rowIs.congr (g := cfF ⟨2, 60, 50, 10, 4, (F : Int), 1⟩) (World.rowIs.set hrow3 5 (.int .i64 (F : Int))) (fun i hi => by
    match i, hi with
    | 0, _ | 1, _ | 2, _ | 3, _ | 4, _ | 5, _ | 6, _ => rfl)
  have hB4 := (hB3.grown (setCell_one _ b1 5 (.int .i64 (F : Int))) hB3.size (by intro g e; simp at e; omega))
  change Code.wp _ _ _ _ (wk.setCell ⟨b1, 5, none⟩ (.int .i64 (F : Int)))
  obtain ⟨w3, hw3⟩ : ∃ w3, wk.setCell ⟨b1, 5, none⟩ (.int .i64 (F : Int)) = w3 := ⟨_, rfl⟩
  rw [hw3] at hrow4 hB4 ⊢
  have y0 : w3.cell? ⟨b1, 0, none⟩ = some (.int .i64 2) := World.rowIs.cell (i := 0) hrow4 (by omega)
  have y1 : w3.cell? ⟨b1, 1, none⟩ = some (.int .i64 60) := World.rowIs.cell (i := 1) hrow4 (by omega)
  have y2 : w3.cell? ⟨b1, 2, none⟩ = some (.int .i64 50) := World.rowIs.cell (i := 2) hrow4 (by omega)
  have y3 : w3.cell? ⟨b1, 3, none⟩ = some (.int .i64 10) := World.rowIs.cell (i := 3) hrow4 (by omega)
  have y4 : w3.cell? ⟨b1, 4, none⟩ = some (.int .i64 4) := World.rowIs.cell (i := 4) hrow4 (by omega)
  have y5 : w3.cell? ⟨b1, 5, none⟩ = some (.int .i64 (F : Int)) := World.rowIs.cell (i := 5) hrow4 (by omega)
  have y6 : w3.cell? ⟨b1, 6, none⟩ = some (.int .i64 1) := World.rowIs.cell (i := 6) hrow4 (by omega)
  have HB := Lib.hid hB4
  have HROW := Lib.hid hrow4
  clear x6 f0 hrow3 hB3 hle hrow4 hB4 hw3 HM
  clear hw2 hw3 HW
  have hbl : b1 < w3.heap.size := World.rowIs.lt HROW.out
  have HC := Lib.hid (show CfS w3 (fun _ => 0) b1 ⟨2, 60, 50, 10, 4, (F : Int), 1⟩ from ⟨HROW.out, hbl, rfl⟩)
  clear hbl HROW
  have HN := Lib.hid (show Calls Tryz.prog 31 #[.agg #[.int .i64 2, .int .i64 60, .int .i64 50, .int .i64 10, .int .i64 4, .int .i64 (F : Int), .int .i64 1], .int .i64 0] w3 _ from ev_new (w0 := W) w3 1 2 (by omega) 60 50 10 4 (F : Int) 1 0 HB.out HU.out (.inl rfl) (fun _ => 0) (fun k _ => by unfold Es; omega))
  go_wp2_with fail
  refine HN.out.mono ?_
  rintro e w4 ⟨p, L4, rfl, hx, ht⟩
  have HA := Lib.hid hx
  have HC := Lib.hid (HC.out.keep ht id)
  clear hx ht HN HB y0 y1 y2 y3 y4 y5 y6
  obtain ⟨K, hK, hl⟩ := lab_above L4 w4.heap.size
  have HN := Lib.hid (show Calls Tryz.prog 31 #[.agg #[.int .i64 2, .int .i64 60, .int .i64 50, .int .i64 10, .int .i64 4, .int .i64 (F : Int), .int .i64 1], .int .i64 1] w4 _ from ev_new (w0 := W) w4 K 2 (by omega) 60 50 10 4 (F : Int) 1 1 HA.out.bel HU.out (.inr rfl) L4 (fun k hk => by have := hl k hk; unfold Es; omega))
  have HK := Lib.hid hK
  clear hK hl
  have y0 : w4.cell? ⟨b1, 0, none⟩ = some (.int .i64 2) := World.rowIs.cell (i := 0) HC.out.row (by omega)
  have y1 : w4.cell? ⟨b1, 1, none⟩ = some (.int .i64 60) := World.rowIs.cell (i := 1) HC.out.row (by omega)
  have y2 : w4.cell? ⟨b1, 2, none⟩ = some (.int .i64 50) := World.rowIs.cell (i := 2) HC.out.row (by omega)
  have y3 : w4.cell? ⟨b1, 3, none⟩ = some (.int .i64 10) := World.rowIs.cell (i := 3) HC.out.row (by omega)
  have y4 : w4.cell? ⟨b1, 4, none⟩ = some (.int .i64 4) := World.rowIs.cell (i := 4) HC.out.row (by omega)
  have y5 : w4.cell? ⟨b1, 5, none⟩ = some (.int .i64 (F : Int)) := World.rowIs.cell (i := 5) HC.out.row (by omega)
  have y6 : w4.cell? ⟨b1, 6, none⟩ = some (.int .i64 1) := World.rowIs.cell (i := 6) HC.out.row (by omega)
  go_wp2_with fail
  refine HN.out.mono ?_
  rintro e w5 ⟨q, L5, rfl, hx, ht⟩
  have H5 := Lib.hid (show Two W w5 L5 K b1 ⟨2, 60, 50, 10, 4, (F : Int), 1⟩ p (En.new (ejC F) 0) 0 q (En.new (ejC F) 1) 0 from ⟨HA.out.keep ht (fun _ _ => id) id (fun _ _ => id), hx, HK.out, HC.out.keep ht id⟩)
  clear hx ht HN HA HC HK y0 y1 y2 y3 y4 y5 y6
  go_wp2_with fail
  refine (H5.out.b.up (by omega) 1 r1).mono ?_
  rintro e w6 ⟨rfl, L6, hx, ht⟩
  have H6 := Lib.hid (show Two W w6 L6 K b1 ⟨2, 60, 50, 10, 4, (F : Int), 1⟩ p (En.new (ejC F) 0) 0 q ((En.new (ejC F) 1).up 1) 1 from H5.out.nextB hx ht)
  clear hx ht H5
  go_wp2_with fail
  refine (H6.out.b.saidNo (by omega) r2).mono ?_
  rintro e w7 ⟨rfl, L7, hx, ht⟩
  have H7 := Lib.hid (show Two W w7 L7 K b1 ⟨2, 60, 50, 10, 4, (F : Int), 1⟩ p (En.new (ejC F) 0) 0 q (bR F 0) 1 from H6.out.nextB hx ht)
  clear hx ht H6
  go_wp2_with fail
  refine (H7.out.a.up (by omega) 1 r3).mono ?_
  rintro e w8 ⟨rfl, L8, hx, ht⟩
  have H8 := Lib.hid (show Two W w8 L8 K b1 ⟨2, 60, 50, 10, 4, (F : Int), 1⟩ p ((En.new (ejC F) 0).up 1) 1 q (bR F 0) 1 from H7.out.nextA hx ht)
  clear hx ht H7
  go_wp2_with fail
  refine (joinsP_any 0 _).mono ?_
  rintro e w9 ⟨rfl, hb⟩
  have H9 := Lib.hid (H8.out.later hb)
  clear hb H8
  have HS := Lib.hid (show Calls Tryz.prog 19 #[.pointer (some ⟨p, 0, none⟩), .slice (some ⟨w9.heap.size, 0, none⟩) 1 1] (w9.alloc (.cells #[.int .i64 1, .int .i64 1, .int .i64 0, .int .i64 0, .int .i64 0, .slice none 0 0, .bool false, .int .i64 0, .int .i64 0] 32)) _ from H9.out.a.saidSee (by omega) [⟨⟨1, 1, 0, 0, 0, [], false, 0, 0⟩, none, 0⟩] (see1 (See.plain _ _ 1 1 0 0 0 false 0 0 (by decide))) rfl rfl rfl r4 rfl (by unfold maxLen; simp))
  go_wp2_with fail
  refine (HS.out).mono ?_
  rintro e w10 ⟨rfl, L10, hx, ht⟩
  have H10 := Lib.hid (show Two W w10 L10 K b1 ⟨2, 60, 50, 10, 4, (F : Int), 1⟩ p (aT F 0) 1 q (bR F 0) 1 from H9.out.nextA hx ht)
  clear hx ht H9 HS
  go_wp2_with fail
  refine (HW4.out _).mono ?_
  rintro e w' ⟨rfl, rfl⟩
  have hv2 := HB4.out.1
  have hv3 := HB4.out.2
  clear HW4
  go_wp2_with fail
  go_loopw [11, 12, 13] (fun nv kv _ wr => ∃ (k N : Nat) (Lk : Lab), k ≤ T ∧ N = k * F ∧ nv = .int .i64 (N : Int) ∧ kv = .int .i64 ((k : Int) + 1) ∧ Hid (Two W wr Lk K b1 ⟨2, 60, 50, 10, 4, (F : Int), 1⟩ p (aT F N) (1 + N) q (bR F k) (1 + k))) (fun _ kv _ _ => T + 1 - (intOf kv).toNat)
  case atStart => exact ⟨0, 0, L10, by omega, by omega, rfl, rfl, H10⟩
  case round =>
    clear H10 hv2 hv3
    obtain ⟨k, N0, Lk, hk, hN0, rfl, rfl, hx⟩ := hrel
    have HN0 := Lib.hid hN0
    have HX := hx
    have HKT := Lib.hid hk
    clear hx hk hN0
    by_cases hkt : k < T
    · have i1 : decide ((k : Int) + 1 ≤ (T : Int)) = true := decide_eq_true (by omega)
      have HKL := Lib.hid hkt
      clear hkt HKT
      go_wp2_with fail
      go_loopw [11, 13] (fun nv iv wr => ∃ (i N : Nat) (Li : Lab), i + 1 ≤ F ∧ N = k * F + i ∧ nv = .int .i64 (N : Int) ∧ iv = .int .i64 ((i : Int) + 1) ∧ Hid (Two W wr Li K b1 ⟨2, 60, 50, 10, 4, (F : Int), 1⟩ p (aT F N) (1 + N) q (bR F k) (1 + k))) (fun _ iv _ => F - (intOf iv).toNat)
      case atStart => exact ⟨0, N0, Lk, by have := HF1.out; omega, by have := HN0.out; omega, rfl, rfl, HX⟩
      case round =>
        clear HX HN0
        obtain ⟨i, N, Li, hi, hN, rfl, rfl, hx⟩ := hrel
        have HN := Lib.hid hN
        have HX := hx
        have HII := Lib.hid hi
        have hfi := hx.out.cf.fi
        simp only at hfi
        clear hx hi hN
        have HKF := Lib.hid (show k * F ≤ 27 from Nat.le_trans (Nat.mul_le_mul (show k ≤ 3 by have := HKL.out; have := HT4.out; omega) HF2.out) (by omega))
        obtain ⟨M, hM⟩ : ∃ M, N + 1 = M := ⟨_, rfl⟩
        have HM := Lib.hid hM
        have hv2 : wrap64 ((N : Int) + 1) = (M : Int) := by have := HKF.out; have := HF2.out; have := HII.out; have := HN.out; unfold wrap64; omega
        have HIW := Lib.hid (show wrap64 ((i : Int) + 1 + 1) = ((i + 1 : Nat) : Int) + 1 by have := HF2.out; have := HII.out; unfold wrap64; omega)
        clear hM
        by_cases hif : i + 1 < F
        · have i2 : decide ((i : Int) + 1 < (F : Int)) = true := decide_eq_true (by omega)
          have HIF := Lib.hid hif
          obtain ⟨t1, t2⟩ := ejT F k i N M HF1.out HF2.out (by have := HKL.out; have := HT4.out; omega) hif HN.out HM.out
          clear hif
          go_wp2_with fail
          refine (HX.out.a.tick (by have := HKF.out; have := HF2.out; have := HII.out; have := HN.out; omega) (M : Int) t1).mono ?_
          rintro e w51 ⟨rfl, L51, hx, ht⟩
          have H51 := Lib.hid (show Two W w51 L51 K b1 ⟨2, 60, 50, 10, 4, (F : Int), 1⟩ p ((aT F N).tick (M : Int)) (1 + N + 1) q (bR F k) (1 + k) from HX.out.nextA hx ht)
          clear hx ht HX
          clear hfi
          go_wp2_with fail
          refine (H51.out.a.saidNo (by have := HKF.out; have := HF2.out; have := HII.out; have := HN.out; omega) t2).mono ?_
          rintro e w52 ⟨rfl, L52, hx, ht⟩
          have H52 := Lib.hid (show Two W w52 L52 K b1 ⟨2, 60, 50, 10, 4, (F : Int), 1⟩ p ((aT F N).tick (M : Int)).taken (1 + N + 1) q (bR F k) (1 + k) from H51.out.nextA hx ht)
          clear hx ht H51
          have HX := Lib.hid (show Two W w52 L52 K b1 ⟨2, 60, 50, 10, 4, (F : Int), 1⟩ p (aT F M) (1 + M) q (bR F k) (1 + k) by have h := H52.out; rw [aT_next HM.out, show 1 + N + 1 = 1 + M by have := HM.out; omega] at h; exact h)
          go_wp2
          go_roundw
          case rel => exact ⟨i + 1, M, L52, by have := HIF.out; omega, by have := HM.out; have := HN.out; omega, by first | rfl | go_num, by first | rfl | (rw [HIW.out]) | go_num, HX⟩
          case measure => (try rw [HIW.out]); have := HIF.out; simp [intOf]; omega
        · have i2 : decide ((i : Int) + 1 < (F : Int)) = false := decide_eq_false (by omega)
          have e1 : M = (k + 1) * F := by have := HII.out; have := HN.out; have := HM.out; rw [Nat.add_mul, Nat.one_mul]; omega
          have HE1 := Lib.hid e1
          obtain ⟨t1, t2, t3, t4⟩ := ejR F k N M HF1.out HF2.out (by have := HKL.out; have := HT4.out; omega) HM.out e1
          have hu2 : wrap64 ((k : Int) + 1 - 1) = (k : Int) := by have := HKL.out; have := HT4.out; unfold wrap64; omega
          have hu4 : wrap64 (k : Int) = (k : Int) := by have := HKL.out; have := HT4.out; unfold wrap64; omega
          have HU3 := Lib.hid (show wrap64 ((k : Int) + 1 + 1) = ((k + 1 : Nat) : Int) + 1 by have := HKL.out; have := HT4.out; unfold wrap64; omega)
          have HKG := Lib.hid (show M ≤ 36 by rw [e1]; exact Nat.le_trans (Nat.mul_le_mul (show k + 1 ≤ 4 by have := HKL.out; have := HT4.out; omega) HF2.out) (by omega))
          clear hif e1
          go_wp2_with fail
          refine (HX.out.a.tick (by have := HKG.out; have := HM.out; omega) (M : Int) t1).mono ?_
          rintro e w61 ⟨rfl, L61, hx, ht⟩
          have H61 := Lib.hid (show Two W w61 L61 K b1 ⟨2, 60, 50, 10, 4, (F : Int), 1⟩ p ((aT F N).tick (M : Int)) (1 + N + 1) q (bR F k) (1 + k) from HX.out.nextA hx ht)
          clear hx ht HX
          clear hfi
          go_wp2_with fail
          refine (joinsP_any ((k : Int) + 1) _).mono ?_
          rintro e w62 ⟨rfl, hb⟩
          have H62 := Lib.hid (H61.out.later hb)
          clear hb H61
          have HS := Lib.hid (show Calls Tryz.prog 19 #[.pointer (some ⟨p, 0, none⟩), .slice (some ⟨w62.heap.size, 0, none⟩) 1 1] (w62.alloc (.cells #[.int .i64 1, .int .i64 1, .int .i64 ((k : Int) + 1), .int .i64 0, .int .i64 0, .slice none 0 0, .bool false, .int .i64 0, .int .i64 0] 32)) _ from H62.out.a.saidSee (by have := HKG.out; have := HM.out; omega) [⟨⟨1, 1, ((k : Int) + 1), 0, 0, [], false, 0, 0⟩, none, 0⟩] (see1 (See.plain _ _ 1 1 ((k : Int) + 1) 0 0 false 0 0 (by have := HKL.out; have := HT4.out; simp; omega))) rfl rfl rfl t2 rfl (by unfold maxLen; simp))
          go_wp2_with fail
          refine (HS.out).mono ?_
          rintro e w63 ⟨rfl, L63, hx, ht⟩
          have H63 := Lib.hid (show Two W w63 L63 K b1 ⟨2, 60, 50, 10, 4, (F : Int), 1⟩ p ((aT F N).tick (M : Int)).taken (1 + N + 1) q (bR F k) (1 + k) from H62.out.nextA hx ht)
          clear hx ht H62 HS
          go_wp2_with fail
          refine (joinsP_any ((k : Int) + 1) _).mono ?_
          rintro e w64 ⟨rfl, hb⟩
          have H64 := Lib.hid (H63.out.later hb)
          clear hb H63
          have HS := Lib.hid (show Calls Tryz.prog 22 #[.pointer (some ⟨q, 0, none⟩), .agg #[.int .i64 1, .int .i64 1, .int .i64 ((k : Int) + 1), .int .i64 0, .int .i64 0, .slice none 0 0, .bool false, .int .i64 0, .int .i64 0]] w64 _ from H64.out.b.comeP (by have := HKL.out; have := HT4.out; omega) 1 1 ((k : Int) + 1) 0 0 false 0 0 (by have := HKL.out; have := HT4.out; simp; omega) t3)
          go_wp2_with fail
          refine (HS.out).mono ?_
          rintro e w65 ⟨rfl, L65, hx, ht⟩
          have H65 := Lib.hid (show Two W w65 L65 K b1 ⟨2, 60, 50, 10, 4, (F : Int), 1⟩ p ((aT F N).tick (M : Int)).taken (1 + N + 1) q ((bR F k).comeC ⟨1, 1, (k : Int) + 1, 0, 0, [], false, 0, 0⟩) (1 + k + 1) from H64.out.nextB hx ht)
          clear hx ht H64 HS
          have HS := Lib.hid (show Calls Tryz.prog 19 #[.pointer (some ⟨q, 0, none⟩), .slice (some ⟨w65.heap.size, 0, none⟩) 1 1] (w65.alloc (.cells #[.int .i64 2, .int .i64 1, .int .i64 (k : Int), .int .i64 ((k : Int) + 1), .int .i64 0, .slice none 0 0, .bool false, .int .i64 0, .int .i64 0] 32)) _ from H65.out.b.saidSee (by have := HKL.out; have := HT4.out; omega) [⟨⟨2, 1, (k : Int), ((k : Int) + 1), 0, [], false, 0, 0⟩, none, 0⟩] (see1 (See.plain _ _ 2 1 (k : Int) ((k : Int) + 1) 0 false 0 0 (by have := HKL.out; have := HT4.out; simp; omega))) rfl rfl rfl t4 rfl (by unfold maxLen; simp))
          go_wp2_with fail
          refine (HS.out).mono ?_
          rintro e w66 ⟨rfl, L66, hx, ht⟩
          have H66 := Lib.hid (show Two W w66 L66 K b1 ⟨2, 60, 50, 10, 4, (F : Int), 1⟩ p ((aT F N).tick (M : Int)).taken (1 + N + 1) q (bR F (k + 1)) (1 + (k + 1)) from H65.out.nextB hx ht)
          clear hx ht H65 HS
          have HX := Lib.hid (show Two W w66 L66 K b1 ⟨2, 60, 50, 10, 4, (F : Int), 1⟩ p (aT F M) (1 + M) q (bR F (k + 1)) (1 + (k + 1)) by have h := H66.out; rw [aT_next HM.out, show 1 + N + 1 = 1 + M by have := HM.out; omega] at h; exact h)
          go_wp2
          go_roundw
          case rel => exact ⟨k + 1, M, L66, by have := HKL.out; omega, HE1.out, by first | rfl | go_num, by first | rfl | (rw [HU3.out]) | go_num, HX⟩
          case measure => have := HKL.out; (try rw [HU3.out]); simp [intOf]; omega
    · have i1 : decide ((k : Int) + 1 ≤ (T : Int)) = false := decide_eq_false (by omega)
      have e1 : k = T := by have := HKT.out; omega
      have e2 : N0 = T * F := by have := HN0.out; rw [e1] at this; exact this
      have HX := Lib.hid (show Two W wr Lk K b1 ⟨2, 60, 50, 10, 4, (F : Int), 1⟩ p (aT F (T * F)) (1 + T * F) q (bR F T) (1 + T) by have := HX.out; rw [e1, e2] at this; exact this)
      have HTF := Lib.hid (show T * F ≤ 36 from Nat.le_trans (Nat.mul_le_mul HT4.out HF2.out) (by omega))
      obtain ⟨Q, hQ⟩ : ∃ Q, N0 + 50 = Q := ⟨_, rfl⟩
      obtain ⟨S, hS⟩ : ∃ S, T + 1 = S := ⟨_, rfl⟩
      have hv2 : wrap64 ((N0 : Int) + 50) = (Q : Int) := by have := HTF.out; unfold wrap64; omega
      have hv3 : wrap64 ((T : Int) + 1) = (S : Int) := by have := HT4.out; unfold wrap64; omega
      have HS5 := Lib.hid (show S ≤ 5 by have := HT4.out; omega)
      obtain ⟨v1, v2, v3, v4, v5, v6, v7, v8, v9, v10, v11⟩ := ejZ F T Q S HF1.out HF2.out HT1.out HT4.out (by omega) hS
      clear hkt HKT e1 e2 hQ hS
      have HS := Lib.hid (show Calls Tryz.prog 22 #[.pointer (some ⟨p, 0, none⟩), .agg #[.int .i64 2, .int .i64 1, .int .i64 0, .int .i64 (T : Int), .int .i64 0, .slice none 0 0, .bool false, .int .i64 0, .int .i64 0]] wr _ from HX.out.a.comeP (by have := HTF.out; omega) 2 1 0 (T : Int) 0 false 0 0 (by have := HT4.out; simp; omega) v1)
      go_wp2_with fail
      refine (HS.out).mono ?_
      rintro e w81 ⟨rfl, L81, hx, ht⟩
      have H81 := Lib.hid (show Two W w81 L81 K b1 ⟨2, 60, 50, 10, 4, (F : Int), 1⟩ p ((aT F (T * F)).comeC ⟨2, 1, 0, (T : Int), 0, [], false, 0, 0⟩) (1 + T * F + 1) q (bR F T) (1 + T) from HX.out.nextA hx ht)
      clear hx ht HX HS
      go_wp2_with fail
      refine (H81.out.a.saidNo (by have := HTF.out; omega) v2).mono ?_
      rintro e w82 ⟨rfl, L82, hx, ht⟩
      have H82 := Lib.hid (show Two W w82 L82 K b1 ⟨2, 60, 50, 10, 4, (F : Int), 1⟩ p (ej1 F T) (1 + T * F + 1) q (bR F T) (1 + T) from H81.out.nextA hx ht)
      clear hx ht H81
      go_wp2_with fail
      refine (H82.out.a.tick (by have := HTF.out; omega) (Q : Int) v3).mono ?_
      rintro e w83 ⟨rfl, L83, hx, ht⟩
      have H83 := Lib.hid (show Two W w83 L83 K b1 ⟨2, 60, 50, 10, 4, (F : Int), 1⟩ p ((ej1 F T).tick (Q : Int)) (1 + T * F + 2) q (bR F T) (1 + T) from H82.out.nextA hx ht)
      clear hx ht H82
      go_wp2_with fail
      refine (H83.out.a.saidNo (by have := HTF.out; omega) v4).mono ?_
      rintro e w84 ⟨rfl, L84, hx, ht⟩
      have H84 := Lib.hid (show Two W w84 L84 K b1 ⟨2, 60, 50, 10, 4, (F : Int), 1⟩ p (ej2 F T Q) (1 + T * F + 2) q (bR F T) (1 + T) from H83.out.nextA hx ht)
      clear hx ht H83
      go_wp2_with fail
      refine (H84.out.a.down (by have := HTF.out; omega) 1 v5).mono ?_
      rintro e w85 ⟨rfl, L85, hx, ht⟩
      have H85 := Lib.hid (show Two W w85 L85 K b1 ⟨2, 60, 50, 10, 4, (F : Int), 1⟩ p ((ej2 F T Q).down 1) (1 + T * F + 3) q (bR F T) (1 + T) from H84.out.nextA hx ht)
      clear hx ht H84
      have HS := Lib.hid (show Calls Tryz.prog 22 #[.pointer (some ⟨p, 0, none⟩), .agg #[.int .i64 2, .int .i64 1, .int .i64 0, .int .i64 (T : Int), .int .i64 0, .slice none 0 0, .bool false, .int .i64 0, .int .i64 0]] w85 _ from H85.out.a.comeP (by have := HTF.out; omega) 2 1 0 (T : Int) 0 false 0 0 (by have := HT4.out; simp; omega) v6)
      go_wp2_with fail
      refine (HS.out).mono ?_
      rintro e w86 ⟨rfl, L86, hx, ht⟩
      have H86 := Lib.hid (show Two W w86 L86 K b1 ⟨2, 60, 50, 10, 4, (F : Int), 1⟩ p (((ej2 F T Q).down 1).comeC ⟨2, 1, 0, (T : Int), 0, [], false, 0, 0⟩) (1 + T * F + 4) q (bR F T) (1 + T) from H85.out.nextA hx ht)
      clear hx ht H85 HS
      go_wp2_with fail
      refine (H86.out.a.saidNo (by have := HTF.out; omega) v7).mono ?_
      rintro e w87 ⟨rfl, L87, hx, ht⟩
      have H87 := Lib.hid (show Two W w87 L87 K b1 ⟨2, 60, 50, 10, 4, (F : Int), 1⟩ p (ej3 F T Q) (1 + T * F + 4) q (bR F T) (1 + T) from H86.out.nextA hx ht)
      clear hx ht H86
      go_wp2_with fail
      refine (H87.out.a.writeLit (by have := HTF.out; omega) (m := 1) (ys := [120]) rfl rfl rfl (by omega) (by decide) v8).mono ?_
      rintro e w88 ⟨rfl, L88, hx, ht⟩
      have H88 := Lib.hid (show Two W w88 L88 K b1 ⟨2, 60, 50, 10, 4, (F : Int), 1⟩ p ((ej3 F T Q).write [120]) (1 + T * F + 5) q (bR F T) (1 + T) from H87.out.nextA hx ht)
      clear hx ht H87
      go_wp2_with fail
      refine (H88.out.a.saidNo (by have := HTF.out; omega) v9).mono ?_
      rintro e w89 ⟨rfl, L89, hx, ht⟩
      have H89 := Lib.hid (show Two W w89 L89 K b1 ⟨2, 60, 50, 10, 4, (F : Int), 1⟩ p (ej4 F T Q) (1 + T * F + 5) q (bR F T) (1 + T) from H88.out.nextA hx ht)
      clear hx ht H88
      go_wp2_with fail
      refine (H89.out.a.up (by have := HTF.out; omega) 1 v10).mono ?_
      rintro e w90 ⟨rfl, L90, hx, ht⟩
      have H90 := Lib.hid (show Two W w90 L90 K b1 ⟨2, 60, 50, 10, 4, (F : Int), 1⟩ p ((ej4 F T Q).up 1) (1 + T * F + 6) q (bR F T) (1 + T) from H89.out.nextA hx ht)
      clear hx ht H89
      go_wp2_with fail
      refine (H90.out.a.saidLit1 (by have := HTF.out; omega) 3 1 (S : Int) 0 0 [120] false 0 0 rfl rfl rfl (by simp) rfl (by have := HS5.out; simp; omega) (by decide) (by simp) v11).mono ?_
      rintro e w91 ⟨rfl, L91, hx, ht⟩
      have H91 := Lib.hid (show Two W w91 L91 K b1 ⟨2, 60, 50, 10, 4, (F : Int), 1⟩ p ((ej4 F T Q).up 1).taken (1 + T * F + 6) q (bR F T) (1 + T) from H90.out.nextA hx ht)
      clear hx ht H90
      have HF := Lib.hid H91.out.a.bel
      clear H91
      go_wp2_with fail
      refine (wakes19_any _).mono ?_
      rintro e wz ⟨rfl, hb⟩
      have HFIN := Lib.hid (HF.out.trans (hb.mono HF.out.size))
      clear hb HF
      go_wp2
      go_ret
      exact ⟨rfl, HFIN.out⟩
end Go.Proofs.YtpjlnpnadkbakaaGreat
