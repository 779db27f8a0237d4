/-
  The walk of EndAgain.
-/
import Derived.Test.YtpjlnpnadkbakaaGreatQBPrEvK
import Derived.Deep.CutBlock
import Derived.Deep.DeepCutAuto
import Derived.Lib.SlBytesConst
namespace Go.Proofs.YtpjlnpnadkbakaaGreat
set_option maxRecDepth 10000
open Go.RowKit
def agC (F : Nat) : Cg := ⟨((2 : Nat) : Int), 60, 50, 10, 4, (F : Int), 1⟩
def agUB (F : Nat) : Bool := (agC F).ok && (En.new (agC F) 0).mayU 0 && decide (((En.new (agC F) 0).up 0).out = [joinP]) && ((En.new (agC F) 0).up 0).taken.mayC joinedP
noncomputable def agUB2 (F : Nat) : Bool := decide ((((En.new (agC F) 0).up 0).taken.come joinedP).out = [])
theorem agUA : (List.range 20).all (fun z => agUB (z + 1) && agUB2 (z + 1)) = true := by kernel_rfl
theorem agU (F : Nat) (h1 : 1 ≤ F) (h2 : F ≤ 20) : (agC F).ok = true ∧ (En.new (agC F) 0).mayU 0 = true ∧ ((En.new (agC F) 0).up 0).out = [joinP] ∧ ((En.new (agC F) 0).up 0).taken.mayC joinedP = true ∧ (((En.new (agC F) 0).up 0).taken.come joinedP).out = [] := by
  have h := List.all_eq_true.1 agUA (F - 1) (List.mem_range.2 (by omega))
  rw [show F - 1 + 1 = F by omega] at h
  simp only [agUB, agUB2, Bool.and_eq_true, decide_eq_true_eq] at h
  obtain ⟨⟨⟨⟨h0, h1⟩, h2⟩, h3⟩, h4⟩ := h
  exact ⟨h0, h1, h2, h3, h4⟩
noncomputable def ag1 (F : Nat) : En := (upE (agC F)).write [48, 49, 50, 51, 52, 53, 54, 55, 56, 57, 97, 98, 99, 100, 101, 102, 103, 104, 105, 106]
noncomputable def ag2 (F : Nat) : En := (ag1 F).taken
noncomputable def agT (F : Nat) : Nat → En
  | 0 => ag2 F
  | k + 1 => ((agT F k).tick ((k : Int) + 1)).taken
theorem agTA : (List.range 20).all (fun z => (List.range z).all (fun k => (agT (z + 1) k).mayT ((k : Int) + 1) && decide (((agT (z + 1) k).tick ((k : Int) + 1)).out = []))) = true := by kernel_rfl
theorem agTF (F k : Nat) (hF : F ≤ 20) (hk : k + 1 < F) : (agT F k).mayT ((k : Int) + 1) = true ∧ ((agT F k).tick ((k : Int) + 1)).out = [] := by
  have h := List.all_eq_true.1 (List.all_eq_true.1 agTA (F - 1) (List.mem_range.2 (by omega))) k (List.mem_range.2 (by omega))
  rw [show F - 1 + 1 = F by omega] at h
  simp only [Bool.and_eq_true, decide_eq_true_eq] at h
  exact h
noncomputable def ag3 (F : Nat) : En := (agT F (F - 1)).comeC ⟨4, 0, 0, 0, 0, [], false, 10, 50⟩
noncomputable def ag4 (F : Nat) : En := (ag3 F).taken
noncomputable def ag5 (F : Nat) : En := (ag4 F).tick (F : Int)
noncomputable def ag6 (F : Nat) : En := (ag5 F).taken
noncomputable def ag7 (F : Nat) : En := (agT F (F - 1)).tick (F : Int)
noncomputable def ag8 (F : Nat) : En := (ag7 F).taken
noncomputable def ag9 (F : Nat) : En := (ag8 F).comeC ⟨4, 0, 0, 1, 0, [], false, 10, 50⟩
noncomputable def ag10 (F : Nat) : En := (ag9 F).taken
noncomputable def ag11 (F : Nat) : En := (ag10 F).comeC ⟨4, 0, 0, 3, 0, [], false, 10, 50⟩
noncomputable def ag12 (F : Nat) : En := (ag11 F).taken
noncomputable def agFB (F : Nat) : Bool := (decide ((upE (agC F)).takes [48, 49, 50, 51, 52, 53, 54, 55, 56, 57, 97, 98, 99, 100, 101, 102, 103, 104, 105, 106] = 20)) && (decide ((ag1 F).out = [⟨3, 0, 1, 0, 0, [48, 49, 50, 51, 52, 53, 54, 55, 56, 57], false, 0, 0⟩, ⟨3, 0, 2, 0, 10, [97, 98, 99, 100, 101, 102, 103, 104, 105, 106], false, 0, 0⟩]))
theorem agFA : (List.range 20).all (fun z => agFB (z + 1)) = true := by kernel_rfl
theorem agF (F : Nat) (h1 : 1 ≤ F) (h2 : F ≤ 20) : (upE (agC F)).takes [48, 49, 50, 51, 52, 53, 54, 55, 56, 57, 97, 98, 99, 100, 101, 102, 103, 104, 105, 106] = 20 ∧ (ag1 F).out = [⟨3, 0, 1, 0, 0, [48, 49, 50, 51, 52, 53, 54, 55, 56, 57], false, 0, 0⟩, ⟨3, 0, 2, 0, 10, [97, 98, 99, 100, 101, 102, 103, 104, 105, 106], false, 0, 0⟩] := by
  have h := List.all_eq_true.1 agFA (F - 1) (List.mem_range.2 (by omega))
  rw [show F - 1 + 1 = F by omega] at h
  simp only [agFB, Bool.and_eq_true, decide_eq_true_eq] at h
  obtain ⟨h0, h1⟩ := h
  exact ⟨h0, h1⟩
noncomputable def agYB (F : Nat) : Bool := ((agT F (F - 1)).mayC ⟨4, 0, 0, 0, 0, [], false, 10, 50⟩) && (decide ((ag3 F).out = [])) && ((ag4 F).mayT (F : Int)) && (decide ((ag5 F).out = [⟨3, 0, 3, 0, 10, [97, 98, 99, 100, 101, 102, 103, 104, 105, 106], false, 0, 0⟩]))
theorem agYA : (List.range 20).all (fun z => agYB (z + 1)) = true := by kernel_rfl
theorem agY (F : Nat) (h1 : 1 ≤ F) (h2 : F ≤ 20) : (agT F (F - 1)).mayC ⟨4, 0, 0, 0, 0, [], false, 10, 50⟩ = true ∧ (ag3 F).out = [] ∧ (ag4 F).mayT (F : Int) = true ∧ (ag5 F).out = [⟨3, 0, 3, 0, 10, [97, 98, 99, 100, 101, 102, 103, 104, 105, 106], false, 0, 0⟩] := by
  have h := List.all_eq_true.1 agYA (F - 1) (List.mem_range.2 (by omega))
  rw [show F - 1 + 1 = F by omega] at h
  simp only [agYB, Bool.and_eq_true, decide_eq_true_eq] at h
  obtain ⟨⟨⟨h0, h1⟩, h2⟩, h3⟩ := h
  exact ⟨h0, h1, h2, h3⟩
noncomputable def agNB (F : Nat) : Bool := ((agT F (F - 1)).mayT (F : Int)) && (decide ((ag7 F).out = [⟨3, 0, 3, 0, 0, [48, 49, 50, 51, 52, 53, 54, 55, 56, 57], false, 0, 0⟩])) && ((ag8 F).mayC ⟨4, 0, 0, 1, 0, [], false, 10, 50⟩) && (decide ((ag9 F).out = [])) && ((ag10 F).mayC ⟨4, 0, 0, 3, 0, [], false, 10, 50⟩) && (decide ((ag11 F).out = [⟨3, 0, 4, 0, 10, [97, 98, 99, 100, 101, 102, 103, 104, 105, 106], false, 0, 0⟩]))
theorem agNA : (List.range 20).all (fun z => agNB (z + 1)) = true := by kernel_rfl
theorem agN (F : Nat) (h1 : 1 ≤ F) (h2 : F ≤ 20) : (agT F (F - 1)).mayT (F : Int) = true ∧ (ag7 F).out = [⟨3, 0, 3, 0, 0, [48, 49, 50, 51, 52, 53, 54, 55, 56, 57], false, 0, 0⟩] ∧ (ag8 F).mayC ⟨4, 0, 0, 1, 0, [], false, 10, 50⟩ = true ∧ (ag9 F).out = [] ∧ (ag10 F).mayC ⟨4, 0, 0, 3, 0, [], false, 10, 50⟩ = true ∧ (ag11 F).out = [⟨3, 0, 4, 0, 10, [97, 98, 99, 100, 101, 102, 103, 104, 105, 106], false, 0, 0⟩] := by
  have h := List.all_eq_true.1 agNA (F - 1) (List.mem_range.2 (by omega))
  rw [show F - 1 + 1 = F by omega] at h
  simp only [agNB, Bool.and_eq_true, decide_eq_true_eq] at h
  obtain ⟨⟨⟨⟨⟨h0, h1⟩, h2⟩, h3⟩, h4⟩, h5⟩ := h
  exact ⟨h0, h1, h2, h3, h4, h5⟩
set_option maxHeartbeats 8000000 in
theorem endAgain_walk (n : Int) (acked : Bool) (W : World) : Calls Tryz.prog 5 #[.int .i64 n, .bool acked] W fun e W' => e = .returned (.bool true) ∧ Below W.heap.size W W' := by
  have HW := Lib.hid (fun w => within_any n 20 w (by omega) (by omega))
  obtain ⟨z, hz⟩ : ∃ z : Int, n % 20 = z := ⟨_, rfl⟩
  obtain ⟨F, hF⟩ : ∃ F : Nat, 1 + z = (F : Int) := ⟨(1 + z).toNat, by omega⟩
  have HF1 := Lib.hid (show 1 ≤ F by omega)
  have HF2 := Lib.hid (show F ≤ 20 by omega)
  have HB1 := Lib.hid (show wrap64 (1 + z) = (F : Int) ∧ IntKind.i64.wrap (1 + z) = (F : Int) from ⟨by unfold wrap64; omega, by rw [hF]; exact IntWalk.i64_in _ (by constructor <;> omega)⟩)
  rw [hz] at HW
  clear hz hF
  obtain ⟨r1, r2⟩ := agF F HF1.out HF2.out
  have kc := fun (w : World) (C : Array Value) (n c : Nat) => Lib.run_convert_bytes_const (P := Tryz.prog) w 29 5 C n c Tryz.underlying29 Tryz.underlying5
  go_enter Tryz.func5, Tryz.ntmps5
  go_wp2_with fail
  refine (plain_any _).mono ?_
  rintro e w1 ⟨rfl, hb1⟩
  obtain ⟨b1, hb1q⟩ : ∃ b, w1.heap.size = b := ⟨_, rfl⟩
  have hle : W.heap.size ≤ b1 := by rw [← hb1q]; exact hb1.size
  have hB2 : Below W.heap.size W (w1.alloc (.cells #[.int .i64 0, .int .i64 0, .int .i64 0, .int .i64 0, .int .i64 0, .int .i64 0, .int .i64 0] 26)) := hb1.alloc hb1.size _
  have hrow : (w1.alloc (.cells #[.int .i64 0, .int .i64 0, .int .i64 0, .int .i64 0, .int .i64 0, .int .i64 0, .int .i64 0] 26)).rowIs b1 tCf 7 (cfF ⟨0, 0, 0, 0, 0, 0, 0⟩) := by
    rw [← hb1q]
    exact World.rowIs_alloc w1 _ _ _ (fun i hi => by
      match i, hi with
      | 0, _ | 1, _ | 2, _ | 3, _ | 4, _ | 5, _ | 6, _ => rfl)
  obtain ⟨w2, hw2⟩ : ∃ w2, w1.alloc (.cells #[.int .i64 0, .int .i64 0, .int .i64 0, .int .i64 0, .int .i64 0, .int .i64 0, .int .i64 0] 26) = w2 := ⟨_, rfl⟩
  rw [hw2] at hB2 hrow
  have hrow3 := st7_row hrow ⟨2, 60, 50, 10, 4, 3, 1⟩
  have hB3 := hB2.grown (st7_grown w2 b1 ⟨2, 60, 50, 10, 4, 3, 1⟩) hB2.size (by intro g e; simp at e; omega)
  have f0 : ∀ i, w2.frozen? ⟨b1, i, none⟩ = false := World.rowIs.frozen hrow
  have x0 : w2.cell? ⟨b1, 0, none⟩ = some (.int .i64 0) := World.rowIs.cell (i := 0) hrow (by omega)
  have x1 : w2.cell? ⟨b1, 1, none⟩ = some (.int .i64 0) := World.rowIs.cell (i := 1) hrow (by omega)
  have x2 : w2.cell? ⟨b1, 2, none⟩ = some (.int .i64 0) := World.rowIs.cell (i := 2) hrow (by omega)
  have x3 : w2.cell? ⟨b1, 3, none⟩ = some (.int .i64 0) := World.rowIs.cell (i := 3) hrow (by omega)
  have x4 : w2.cell? ⟨b1, 4, none⟩ = some (.int .i64 0) := World.rowIs.cell (i := 4) hrow (by omega)
  have x5 : w2.cell? ⟨b1, 5, none⟩ = some (.int .i64 0) := World.rowIs.cell (i := 5) hrow (by omega)
  have x6 : w2.cell? ⟨b1, 6, none⟩ = some (.int .i64 0) := World.rowIs.cell (i := 6) hrow (by omega)
  clear hb1 hrow hB2
  go_upto_region 2 with (fail)
  change Code.wp _ _ _ _ (st7 w2 b1 ⟨2, 60, 50, 10, 4, 3, 1⟩)
  obtain ⟨wk, hwk⟩ : ∃ wk, st7 w2 b1 ⟨2, 60, 50, 10, 4, 3, 1⟩ = wk := ⟨_, rfl⟩
  rw [hwk] at hrow3 hB3 ⊢
  clear x0 x1 x2 x3 x4 x5 x6 f0 hwk hw2 w2 hb1q
  have f0 : ∀ i, wk.frozen? ⟨b1, i, none⟩ = false := World.rowIs.frozen hrow3
  have x6 : wk.cell? ⟨b1, 5, none⟩ = some (.int .i64 3) := World.rowIs.cell (i := 5) hrow3 (by omega)
  have HM := Lib.hid (And.intro hrow3 (And.intro hB3 hle))
  clear hrow3 hB3 hle
  go_wp2_with fail
  refine (HW.out _).mono ?_
  rintro e w' ⟨rfl, rfl⟩
  have hw2 := HB1.out.1
  have hw3 := HB1.out.2
  go_upto_region 3 with (fail)
  obtain ⟨hrow3, hB3, hle⟩ := HM.out
  have hrow4 := World.rowIs.congr (g := cfF ⟨2, 60, 50, 10, 4, (F : Int), 1⟩) (World.rowIs.set hrow3 5 (.int .i64 (F : Int))) (fun i hi => by
    match i, hi with
    | 0, _ | 1, _ | 2, _ | 3, _ | 4, _ | 5, _ | 6, _ => rfl)
  have hB4 := (hB3.grown (setCell_one _ b1 5 (.int .i64 (F : Int))) hB3.size (by intro g e; simp at e; omega))
  change Code.wp _ _ _ _ (wk.setCell ⟨b1, 5, none⟩ (.int .i64 (F : Int)))
  obtain ⟨w3, hw3⟩ : ∃ w3, wk.setCell ⟨b1, 5, none⟩ (.int .i64 (F : Int)) = w3 := ⟨_, rfl⟩
  rw [hw3] at hrow4 hB4 ⊢
  have y0 : w3.cell? ⟨b1, 0, none⟩ = some (.int .i64 2) := World.rowIs.cell (i := 0) hrow4 (by omega)
  have y1 : w3.cell? ⟨b1, 1, none⟩ = some (.int .i64 60) := World.rowIs.cell (i := 1) hrow4 (by omega)
  have y2 : w3.cell? ⟨b1, 2, none⟩ = some (.int .i64 50) := World.rowIs.cell (i := 2) hrow4 (by omega)
  have y3 : w3.cell? ⟨b1, 3, none⟩ = some (.int .i64 10) := World.rowIs.cell (i := 3) hrow4 (by omega)
  have y4 : w3.cell? ⟨b1, 4, none⟩ = some (.int .i64 4) := World.rowIs.cell (i := 4) hrow4 (by omega)
  have y5 : w3.cell? ⟨b1, 5, none⟩ = some (.int .i64 (F : Int)) := World.rowIs.cell (i := 5) hrow4 (by omega)
  have y6 : w3.cell? ⟨b1, 6, none⟩ = some (.int .i64 1) := World.rowIs.cell (i := 6) hrow4 (by omega)
  have HB := Lib.hid hB4
  have HROW := Lib.hid hrow4
  clear x6 f0 hrow3 hB3 hle hrow4 hB4 hw3 HM
  clear hw2 hw3 HW
  have hbl : b1 < w3.heap.size := World.rowIs.lt HROW.out
  have HC := Lib.hid (show CfS w3 (fun _ => 0) b1 ⟨2, 60, 50, 10, 4, (F : Int), 1⟩ from ⟨HROW.out, hbl, rfl⟩)
  clear hbl HROW
  obtain ⟨u0, u1, u2, u3, u4⟩ := agU F HF1.out HF2.out
  have HUP := Lib.hid (show Calls Tryz.prog 16 #[.agg #[.int .i64 2, .int .i64 60, .int .i64 50, .int .i64 10, .int .i64 4, .int .i64 (F : Int), .int .i64 1]] w3 _ from up_any (w0 := W) 2 60 50 10 4 (F : Int) 1 w3 (fun _ => 0) 1 (by omega) HB.out u0 (fun k _ => by unfold Es; omega) u1 u2 u3 u4)
  clear u0 u1 u2 u3 u4
  go_wp2_with fail
  refine HUP.out.mono ?_
  rintro e w4 ⟨b, L4, rfl, hx, ht⟩
  have H4 := Lib.hid (show EV W w4 L4 1 b (upE (agC F)) 2 from hx)
  have HC := Lib.hid (HC.out.keep ht id)
  clear hx ht HUP HB y0 y1 y2 y3 y4 y5 y6
  go_wp2_with fail
  refine (H4.out.writeLit (by omega) (m := 20) (ys := [48, 49, 50, 51, 52, 53, 54, 55, 56, 57, 97, 98, 99, 100, 101, 102, 103, 104, 105, 106]) rfl rfl rfl (by omega) (by decide) r1).mono ?_
  rintro e w5 ⟨rfl, L5, hx, ht⟩
  have H5 := Lib.hid (show EV W w5 L5 1 b (ag1 F) 3 from hx)
  have HC := Lib.hid (HC.out.keep ht H5.out.relab0)
  clear hx ht H4
  go_wp2_with fail
  refine (H5.out.data 1 0 _ false [48, 49, 50, 51, 52, 53, 54, 55, 56, 57] 10 (by kernel_rfl) rfl (by decide) (by omega)).mono ?_
  rintro e w6 ⟨qa, ca, L6, rfl, hx, hs, ht, hqa⟩
  have H6 := Lib.hid hx
  have Sa := Lib.hid hs
  have HC := Lib.hid (HC.out.keep ht id)
  clear hx hs ht hqa H5
  go_wp2_with fail
  refine (H6.out.data 2 10 _ false [97, 98, 99, 100, 101, 102, 103, 104, 105, 106] 10 (by kernel_rfl) rfl (by decide) (by omega)).mono ?_
  rintro e w7 ⟨qb, cb, L7, rfl, hx, hs, ht, hqb⟩
  have H7 := Lib.hid hx
  have Sa := Lib.hid (Sa.out.keep ht id)
  have Sb := Lib.hid hs
  have HC := Lib.hid (HC.out.keep ht id)
  clear hx hs ht hqb H6
  have HS := Lib.hid (show Calls Tryz.prog 19 #[.pointer (some ⟨b, 0, none⟩), .slice (some ⟨w7.heap.size, 0, none⟩) 2 2] (w7.alloc (.cells #[.int .i64 3, .int .i64 0, .int .i64 1, .int .i64 0, .int .i64 0, .slice (some ⟨qa, 0, none⟩) 10 ca, .bool false, .int .i64 0, .int .i64 0, .int .i64 3, .int .i64 0, .int .i64 2, .int .i64 0, .int .i64 10, .slice (some ⟨qb, 0, none⟩) 10 cb, .bool false, .int .i64 0, .int .i64 0] 32)) _ from H7.out.saidSee (by omega) [⟨⟨3, 0, 1, 0, 0, [48, 49, 50, 51, 52, 53, 54, 55, 56, 57], false, 0, 0⟩, some ⟨qa, 0, none⟩, ca⟩, ⟨⟨3, 0, 2, 0, 10, [97, 98, 99, 100, 101, 102, 103, 104, 105, 106], false, 0, 0⟩, some ⟨qb, 0, none⟩, cb⟩] (seeC Sa.out (see1 Sb.out)) rfl rfl rfl r2 rfl (by unfold maxLen; simp))
  go_wp2_with fail
  refine HS.out.mono ?_
  rintro e w8 ⟨rfl, L8, hx, ht⟩
  have H8 := Lib.hid (show EV W w8 L8 1 b (ag2 F) 3 from hx)
  have HC := Lib.hid (HC.out.keep ht H8.out.relab0)
  clear hx ht H7 HS
  clear Sa Sb
  go_wp2_with fail
  go_loopw [8] (fun tv wr => ∃ (k : Nat) (Lk : Lab), k + 1 ≤ F ∧ tv = .int .i64 ((k : Int) + 1) ∧ Hid (EV W wr Lk 1 b (agT F k) (3 + k)) ∧ Hid (CfS wr Lk b1 ⟨2, 60, 50, 10, 4, (F : Int), 1⟩)) (fun tv _ => F - (intOf tv).toNat)
  case atStart => exact ⟨0, L8, by have := HF1.out; omega, rfl, H8, HC⟩
  case round =>
    clear H8 HC
    obtain ⟨k, Lk, hk, rfl, hx, hc⟩ := hrel
    have HI := Lib.hid hk
    have HX := hx
    have HC := hc
    have hfi := hc.out.fi
    simp only at hfi
    clear hk hx hc
    by_cases hkt : k + 1 < F
    · have i1 : (k : Int) + 1 < (F : Int) := by omega
      have HK := Lib.hid hkt
      obtain ⟨t1, t2⟩ := agTF F k HF2.out hkt
      have HIW := Lib.hid (show wrap64 ((k : Int) + 1 + 1) = ((k + 1 : Nat) : Int) + 1 ∧ IntKind.i64.wrap ((k : Int) + 1 + 1) = ((k + 1 : Nat) : Int) + 1 from ⟨by have := HF2.out; unfold wrap64; omega, by rw [show ((k : Int) + 1 + 1) = ((k + 1 : Nat) : Int) + 1 by omega]; exact IntWalk.i64_in _ (by have := HF2.out; constructor <;> omega)⟩)
      clear hkt
      go_wp2_with fail
      refine (HX.out.tick (by have := HF2.out; have := HI.out; omega) ((k : Int) + 1) t1).mono ?_
      rintro e wa ⟨rfl, La, hx, ht⟩
      have HC := Lib.hid (HC.out.keep ht hx.relab0)
      have HY := Lib.hid hx
      clear hx ht HX hfi
      go_wp2_with fail
      refine (HY.out.saidNo (by have := HF2.out; have := HI.out; omega) t2).mono ?_
      rintro e wb ⟨rfl, Lb, hx, ht⟩
      have HC := Lib.hid (HC.out.keep ht hx.relab0)
      have HX := Lib.hid (show EV W wb Lb 1 b (agT F (k + 1)) (3 + (k + 1)) from hx)
      clear hx ht HY
      go_wp2
      go_roundw
      case rel => exact ⟨k + 1, Lb, by have := HK.out; omega, by first | rfl | (rw [HIW.out.1]) | (rw [HIW.out.2]) | go_num, HX, HC⟩
      case measure => (try rw [HIW.out.1]); have := HK.out; simp [intOf]; omega
    · have i1 : decide ((k : Int) + 1 < (F : Int)) = false := decide_eq_false (by omega)
      have e1 : k = F - 1 := by have := HI.out; omega
      have HX := Lib.hid (show EV W wr Lk 1 b (agT F (F - 1)) (3 + (F - 1)) by rw [← e1]; exact HX.out)
      have hk20 := HF2.out
      clear hkt HI e1
      cases acked with
      | true =>
        obtain ⟨r3, r4, r5, r6⟩ := agY F HF1.out HF2.out
        go_wp2_with fail
        refine (lack_any 0 10 50 _).mono ?_
        rintro e w11 ⟨rfl, hb⟩
        have H11 := Lib.hid (HX.out.later hb)
        have HT := Lib.hid (Tn.of_below hb Lk 0 (fun _ => False))
        have HC := Lib.hid (HC.out.keep HT.out id)
        clear hb HX
        have HS := Lib.hid (show Calls Tryz.prog 22 #[.pointer (some ⟨b, 0, none⟩), .agg #[.int .i64 4, .int .i64 0, .int .i64 0, .int .i64 0, .int .i64 0, .slice none 0 0, .bool false, .int .i64 10, .int .i64 50]] w11 _ from H11.out.comeP (by omega) 4 0 0 0 0 false 10 50 (by decide) r3)
        go_wp2_with fail
        refine HS.out.mono ?_
        rintro e w12 ⟨rfl, L12, hx, ht⟩
        have H12 := Lib.hid (show EV W w12 L12 1 b (ag3 F) (3 + (F - 1) + 1) from hx)
        have HC := Lib.hid (HC.out.keep ht H12.out.relab0)
        clear hx ht H11 HS
        clear hfi
        go_wp2_with fail
        refine (H12.out.saidNo (by omega) r4).mono ?_
        rintro e w13 ⟨rfl, L13, hx, ht⟩
        have H13 := Lib.hid (show EV W w13 L13 1 b (ag4 F) (3 + (F - 1) + 1) from hx)
        have HC := Lib.hid (HC.out.keep ht H13.out.relab0)
        clear hx ht H12
        have hfi := HC.out.fi
        simp only at hfi
        go_wp2_with fail
        refine (H13.out.tick (by omega) (F : Int) r5).mono ?_
        rintro e w14 ⟨rfl, L14, hx, ht⟩
        have H14 := Lib.hid (show EV W w14 L14 1 b (ag5 F) (3 + (F - 1) + 2) from hx)
        have HC := Lib.hid (HC.out.keep ht H14.out.relab0)
        clear hx ht H13
        clear hfi
        go_wp2_with fail
        refine (H14.out.data 3 10 _ false [97, 98, 99, 100, 101, 102, 103, 104, 105, 106] 10 (by kernel_rfl) rfl (by decide) (by omega)).mono ?_
        rintro e w15 ⟨qc, cc, L15, rfl, hx, hs, ht, hqc⟩
        have H15 := Lib.hid hx
        have Sc := Lib.hid hs
        have HC := Lib.hid (HC.out.keep ht id)
        clear hx hs ht hqc H14
        have HS := Lib.hid (show Calls Tryz.prog 19 #[.pointer (some ⟨b, 0, none⟩), .slice (some ⟨w15.heap.size, 0, none⟩) 1 1] (w15.alloc (.cells #[.int .i64 3, .int .i64 0, .int .i64 3, .int .i64 0, .int .i64 10, .slice (some ⟨qc, 0, none⟩) 10 cc, .bool false, .int .i64 0, .int .i64 0] 32)) _ from H15.out.saidSee (by omega) [⟨⟨3, 0, 3, 0, 10, [97, 98, 99, 100, 101, 102, 103, 104, 105, 106], false, 0, 0⟩, some ⟨qc, 0, none⟩, cc⟩] (see1 Sc.out) rfl rfl rfl r6 rfl (by unfold maxLen; simp))
        go_wp2_with fail
        refine HS.out.mono ?_
        rintro e w16 ⟨rfl, L16, hx, ht⟩
        have H16 := Lib.hid (show EV W w16 L16 1 b (ag6 F) (3 + (F - 1) + 2) from hx)
        have HC := Lib.hid (HC.out.keep ht H16.out.relab0)
        clear hx ht H15 HS
        clear Sc
        have HF := Lib.hid H16.out.bel
        clear H16
        go_wp2_with fail
        refine (wakes19_any _).mono ?_
        rintro e wz ⟨rfl, hb⟩
        have HFIN := Lib.hid (HF.out.trans (hb.mono HF.out.size))
        clear hb HF
        go_wp2
        go_ret
        exact ⟨rfl, HFIN.out⟩
      | false =>
        obtain ⟨r7, r8, r9, r10, r11, r12⟩ := agN F HF1.out HF2.out
        go_wp2_with fail
        refine (HX.out.tick (by omega) (F : Int) r7).mono ?_
        rintro e w41 ⟨rfl, L41, hx, ht⟩
        have H41 := Lib.hid (show EV W w41 L41 1 b (ag7 F) (3 + (F - 1) + 1) from hx)
        have HC := Lib.hid (HC.out.keep ht H41.out.relab0)
        clear hx ht HX
        clear hfi
        go_wp2_with fail
        refine (H41.out.data 3 0 _ false [48, 49, 50, 51, 52, 53, 54, 55, 56, 57] 10 (by kernel_rfl) rfl (by decide) (by omega)).mono ?_
        rintro e w42 ⟨qc, cc, L42, rfl, hx, hs, ht, hqc⟩
        have H42 := Lib.hid hx
        have Sc := Lib.hid hs
        have HC := Lib.hid (HC.out.keep ht id)
        clear hx hs ht hqc H41
        have HS := Lib.hid (show Calls Tryz.prog 19 #[.pointer (some ⟨b, 0, none⟩), .slice (some ⟨w42.heap.size, 0, none⟩) 1 1] (w42.alloc (.cells #[.int .i64 3, .int .i64 0, .int .i64 3, .int .i64 0, .int .i64 0, .slice (some ⟨qc, 0, none⟩) 10 cc, .bool false, .int .i64 0, .int .i64 0] 32)) _ from H42.out.saidSee (by omega) [⟨⟨3, 0, 3, 0, 0, [48, 49, 50, 51, 52, 53, 54, 55, 56, 57], false, 0, 0⟩, some ⟨qc, 0, none⟩, cc⟩] (see1 Sc.out) rfl rfl rfl r8 rfl (by unfold maxLen; simp))
        go_wp2_with fail
        refine HS.out.mono ?_
        rintro e w43 ⟨rfl, L43, hx, ht⟩
        have H43 := Lib.hid (show EV W w43 L43 1 b (ag8 F) (3 + (F - 1) + 1) from hx)
        have HC := Lib.hid (HC.out.keep ht H43.out.relab0)
        clear hx ht H42 HS
        clear Sc
        go_wp2_with fail
        refine (lack_any 1 10 50 _).mono ?_
        rintro e w44 ⟨rfl, hb⟩
        have H44 := Lib.hid (H43.out.later hb)
        have HT := Lib.hid (Tn.of_below hb L43 0 (fun _ => False))
        have HC := Lib.hid (HC.out.keep HT.out id)
        clear hb H43
        have HS := Lib.hid (show Calls Tryz.prog 22 #[.pointer (some ⟨b, 0, none⟩), .agg #[.int .i64 4, .int .i64 0, .int .i64 0, .int .i64 1, .int .i64 0, .slice none 0 0, .bool false, .int .i64 10, .int .i64 50]] w44 _ from H44.out.comeP (by omega) 4 0 0 1 0 false 10 50 (by decide) r9)
        go_wp2_with fail
        refine HS.out.mono ?_
        rintro e w45 ⟨rfl, L45, hx, ht⟩
        have H45 := Lib.hid (show EV W w45 L45 1 b (ag9 F) (3 + (F - 1) + 2) from hx)
        have HC := Lib.hid (HC.out.keep ht H45.out.relab0)
        clear hx ht H44 HS
        go_wp2_with fail
        refine (H45.out.saidNo (by omega) r10).mono ?_
        rintro e w46 ⟨rfl, L46, hx, ht⟩
        have H46 := Lib.hid (show EV W w46 L46 1 b (ag10 F) (3 + (F - 1) + 2) from hx)
        have HC := Lib.hid (HC.out.keep ht H46.out.relab0)
        clear hx ht H45
        go_wp2_with fail
        refine (lack_any 3 10 50 _).mono ?_
        rintro e w47 ⟨rfl, hb⟩
        have H47 := Lib.hid (H46.out.later hb)
        have HT := Lib.hid (Tn.of_below hb L46 0 (fun _ => False))
        have HC := Lib.hid (HC.out.keep HT.out id)
        clear hb H46
        have HS := Lib.hid (show Calls Tryz.prog 22 #[.pointer (some ⟨b, 0, none⟩), .agg #[.int .i64 4, .int .i64 0, .int .i64 0, .int .i64 3, .int .i64 0, .slice none 0 0, .bool false, .int .i64 10, .int .i64 50]] w47 _ from H47.out.comeP (by omega) 4 0 0 3 0 false 10 50 (by decide) r11)
        go_wp2_with fail
        refine HS.out.mono ?_
        rintro e w48 ⟨rfl, L48, hx, ht⟩
        have H48 := Lib.hid (show EV W w48 L48 1 b (ag11 F) (3 + (F - 1) + 3) from hx)
        have HC := Lib.hid (HC.out.keep ht H48.out.relab0)
        clear hx ht H47 HS
        go_wp2_with fail
        refine (H48.out.data 4 10 _ false [97, 98, 99, 100, 101, 102, 103, 104, 105, 106] 10 (by kernel_rfl) rfl (by decide) (by omega)).mono ?_
        rintro e w49 ⟨qd, cd, L49, rfl, hx, hs, ht, hqd⟩
        have H49 := Lib.hid hx
        have Sd := Lib.hid hs
        have HC := Lib.hid (HC.out.keep ht id)
        clear hx hs ht hqd H48
        have HS := Lib.hid (show Calls Tryz.prog 19 #[.pointer (some ⟨b, 0, none⟩), .slice (some ⟨w49.heap.size, 0, none⟩) 1 1] (w49.alloc (.cells #[.int .i64 3, .int .i64 0, .int .i64 4, .int .i64 0, .int .i64 10, .slice (some ⟨qd, 0, none⟩) 10 cd, .bool false, .int .i64 0, .int .i64 0] 32)) _ from H49.out.saidSee (by omega) [⟨⟨3, 0, 4, 0, 10, [97, 98, 99, 100, 101, 102, 103, 104, 105, 106], false, 0, 0⟩, some ⟨qd, 0, none⟩, cd⟩] (see1 Sd.out) rfl rfl rfl r12 rfl (by unfold maxLen; simp))
        go_wp2_with fail
        refine HS.out.mono ?_
        rintro e w50 ⟨rfl, L50, hx, ht⟩
        have H50 := Lib.hid (show EV W w50 L50 1 b (ag12 F) (3 + (F - 1) + 3) from hx)
        have HC := Lib.hid (HC.out.keep ht H50.out.relab0)
        clear hx ht H49 HS
        clear Sd
        have HF := Lib.hid H50.out.bel
        clear H50
        go_wp2_with fail
        refine (wakes19_any _).mono ?_
        rintro e wz ⟨rfl, hb⟩
        have HFIN := Lib.hid (HF.out.trans (hb.mono HF.out.size))
        clear hb HF
        go_wp2
        go_ret
        exact ⟨rfl, HFIN.out⟩
end Go.Proofs.YtpjlnpnadkbakaaGreat
