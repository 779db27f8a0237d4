/-
  The walk of EndWaits.
-/
import Derived.Test.YtpjlnpnadkbakaaGreatQBPrEvK
import Derived.Deep.CutBlock
import Derived.Deep.DeepCutAuto
import Derived.Lib.SlBytesConst
namespace Go.Proofs.YtpjlnpnadkbakaaGreat
set_option maxRecDepth 10000
open Go.RowKit
def waC : Cg := ⟨((2 : Nat) : Int), 60, 8, 10, 4, 3, 1⟩
theorem waUp : (En.new waC 0).mayU 0 = true ∧ ((En.new waC 0).up 0).out = [joinP] ∧ ((En.new waC 0).up 0).taken.mayC joinedP = true ∧ (((En.new waC 0).up 0).taken.come joinedP).out = [] := by
  refine ⟨?_, ?_, ?_, ?_⟩ <;> kernel_rfl
noncomputable def wa1 : En := (upE waC).write [48, 49, 50, 51, 52, 53, 54, 55, 56, 57, 97, 98]
noncomputable def wa2 : En := wa1.taken
noncomputable def wa3 : En := wa2.tick 2
noncomputable def wa4 : En := wa3.taken
noncomputable def wa5 : En := wa4.comeC ⟨4, 0, 0, 1, 0, [], false, 8, 8⟩
noncomputable def wa6 : En := wa5.taken
noncomputable def wa7 : En := wa6.tick 3
noncomputable def wa8 : En := wa7.taken
noncomputable def wa9 : En := wa8.tick 4
noncomputable def wa10 : En := wa9.taken
noncomputable def wa11 : En := wa10.comeC ⟨4, 0, 0, 2, 0, [], false, 8, 8⟩
noncomputable def wa12 : En := wa11.taken
noncomputable def wa13 : En := wa12.tick 5
noncomputable def wa14 : En := wa13.taken
noncomputable def wa15 (m : Nat) : En := wa14.comeC ⟨4, 0, 0, 3, 0, [], false, 8, ((8 + m : Nat) : Int)⟩
noncomputable def wa16 (m : Nat) : En := (wa15 m).taken
theorem waF : (upE waC).takes [48, 49, 50, 51, 52, 53, 54, 55, 56, 57, 97, 98] = 12 ∧ (wa1).out = [⟨3, 0, 1, 0, 0, [48, 49, 50, 51, 52, 53, 54, 55], false, 0, 0⟩] ∧ (wa2).mayT 2 = true ∧ (wa3).out = [] ∧ (wa4).mayC ⟨4, 0, 0, 1, 0, [], false, 8, 8⟩ = true ∧ (wa5).out = [] ∧ (wa6).mayT 3 = true ∧ (wa7).out = [⟨3, 0, 2, 0, 8, [], false, 0, 0⟩] ∧ (wa8).mayT 4 = true ∧ (wa9).out = [] ∧ (wa10).mayC ⟨4, 0, 0, 2, 0, [], false, 8, 8⟩ = true ∧ (wa11).out = [] ∧ (wa12).mayT 5 = true ∧ (wa13).out = [⟨3, 0, 3, 0, 8, [], false, 0, 0⟩] := by
  refine ⟨?_, ?_, ?_, ?_, ?_, ?_, ?_, ?_, ?_, ?_, ?_, ?_, ?_, ?_⟩ <;> kernel_rfl
noncomputable def waZB (m : Nat) : Bool := ((wa14).mayC ⟨4, 0, 0, 3, 0, [], false, 8, ((8 + m : Nat) : Int)⟩) && (decide ((wa15 m).out = [⟨3, 0, 4, 0, 8, (([56, 57, 97, 98] : List Int).take m), false, 0, 0⟩]))
theorem waZA : (List.range 4).all (fun z => waZB (z + 1)) = true := by kernel_rfl
theorem waZ (m : Nat) (h1 : 1 ≤ m) (h2 : m ≤ 4) : (wa14).mayC ⟨4, 0, 0, 3, 0, [], false, 8, ((8 + m : Nat) : Int)⟩ = true ∧ (wa15 m).out = [⟨3, 0, 4, 0, 8, (([56, 57, 97, 98] : List Int).take m), false, 0, 0⟩] := by
  have h := List.all_eq_true.1 waZA (m - 1) (List.mem_range.2 (by omega))
  rw [show m - 1 + 1 = m by omega] at h
  simp only [waZB, Bool.and_eq_true, decide_eq_true_eq] at h
  obtain ⟨h0, h1⟩ := h
  exact ⟨h0, h1⟩
set_option maxHeartbeats 8000000 in
theorem endWaits_walk (n : Int) (W : World) : Calls Tryz.prog 4 #[.int .i64 n] W fun e W' => e = .returned (.bool true) ∧ Below W.heap.size W W' := by
  obtain ⟨r1, r2, r3, r4, r5, r6, r7, r8, r9, r10, r11, r12, r13, r14⟩ := waF
  have HW := Lib.hid (fun w => within_any n 4 w (by omega) (by omega))
  obtain ⟨z, hz⟩ : ∃ z : Int, n % 4 = z := ⟨_, rfl⟩
  obtain ⟨m, hm⟩ : ∃ m : Nat, 1 + z = (m : Int) := ⟨(1 + z).toNat, by omega⟩
  have HM1 := Lib.hid (show 1 ≤ m by omega)
  have HM2 := Lib.hid (show m ≤ 4 by omega)
  have HM4 := Lib.hid (show m = 1 ∨ m = 2 ∨ m = 3 ∨ m = 4 by omega)
  have HLE := Lib.hid (show (([56, 57, 97, 98] : List Int).take m).length = m by simp; omega)
  have HB1 := Lib.hid (show wrap64 (1 + z) = (m : Int) ∧ wrap64 (8 + (m : Int)) = ((8 + m : Nat) : Int) from ⟨by unfold wrap64; omega, by unfold wrap64; omega⟩)
  rw [hz] at HW
  clear hz hm
  obtain ⟨r15, r16⟩ := waZ m HM1.out HM2.out
  have kc := fun (w : World) (C : Array Value) (n c : Nat) => Lib.run_convert_bytes_const (P := Tryz.prog) w 29 5 C n c Tryz.underlying29 Tryz.underlying5
  go_enter Tryz.func4, Tryz.ntmps4
  go_wp2_with fail
  refine (plain_any _).mono ?_
  rintro e w1 ⟨rfl, hb1⟩
  obtain ⟨b1, hb1q⟩ : ∃ b, w1.heap.size = b := ⟨_, rfl⟩
  have hle : W.heap.size ≤ b1 := by rw [← hb1q]; exact hb1.size
  have hB2 : Below W.heap.size W (w1.alloc (.cells #[.int .i64 0, .int .i64 0, .int .i64 0, .int .i64 0, .int .i64 0, .int .i64 0, .int .i64 0] 26)) := hb1.alloc hb1.size _
  have hrow : (w1.alloc (.cells #[.int .i64 0, .int .i64 0, .int .i64 0, .int .i64 0, .int .i64 0, .int .i64 0, .int .i64 0] 26)).rowIs b1 tCf 7 (cfF ⟨0, 0, 0, 0, 0, 0, 0⟩) := by
    rw [← hb1q]
    exact World.rowIs_alloc w1 _ _ _ (fun i hi => by
      match i, hi with
      | 0, _ | 1, _ | 2, _ | 3, _ | 4, _ | 5, _ | 6, _ => rfl)
  obtain ⟨w2, hw2⟩ : ∃ w2, w1.alloc (.cells #[.int .i64 0, .int .i64 0, .int .i64 0, .int .i64 0, .int .i64 0, .int .i64 0, .int .i64 0] 26) = w2 := ⟨_, rfl⟩
  rw [hw2] at hB2 hrow
  have hrow3 := st7_row hrow ⟨2, 60, 50, 10, 4, 3, 1⟩
  have hB3 := hB2.grown (st7_grown w2 b1 ⟨2, 60, 50, 10, 4, 3, 1⟩) hB2.size (by intro g e; simp at e; omega)
  have f0 : ∀ i, w2.frozen? ⟨b1, i, none⟩ = false := World.rowIs.frozen hrow
  have x0 : w2.cell? ⟨b1, 0, none⟩ = some (.int .i64 0) := World.rowIs.cell (i := 0) hrow (by omega)
  have x1 : w2.cell? ⟨b1, 1, none⟩ = some (.int .i64 0) := World.rowIs.cell (i := 1) hrow (by omega)
  have x2 : w2.cell? ⟨b1, 2, none⟩ = some (.int .i64 0) := World.rowIs.cell (i := 2) hrow (by omega)
  have x3 : w2.cell? ⟨b1, 3, none⟩ = some (.int .i64 0) := World.rowIs.cell (i := 3) hrow (by omega)
  have x4 : w2.cell? ⟨b1, 4, none⟩ = some (.int .i64 0) := World.rowIs.cell (i := 4) hrow (by omega)
  have x5 : w2.cell? ⟨b1, 5, none⟩ = some (.int .i64 0) := World.rowIs.cell (i := 5) hrow (by omega)
  have x6 : w2.cell? ⟨b1, 6, none⟩ = some (.int .i64 0) := World.rowIs.cell (i := 6) hrow (by omega)
  clear hb1 hrow hB2
  go_upto_region 2 with (fail)
  change Code.wp _ _ _ _ (st7 w2 b1 ⟨2, 60, 50, 10, 4, 3, 1⟩)
  obtain ⟨wk, hwk⟩ : ∃ wk, st7 w2 b1 ⟨2, 60, 50, 10, 4, 3, 1⟩ = wk := ⟨_, rfl⟩
  rw [hwk] at hrow3 hB3 ⊢
  clear x0 x1 x2 x3 x4 x5 x6 f0 hwk hw2 w2 hb1q
  have f0 : ∀ i, wk.frozen? ⟨b1, i, none⟩ = false := World.rowIs.frozen hrow3
  have x6 : wk.cell? ⟨b1, 2, none⟩ = some (.int .i64 50) := World.rowIs.cell (i := 2) hrow3 (by omega)
  have HM := Lib.hid (And.intro hrow3 (And.intro hB3 hle))
  clear hrow3 hB3 hle
  go_upto_region 3 with (fail)
  obtain ⟨hrow3, hB3, hle⟩ := HM.out
  have hrow4 := World.rowIs.congr (g := cfF ⟨2, 60, 8, 10, 4, 3, 1⟩) (World.rowIs.set hrow3 2 (.int .i64 8)) (fun i hi => by
    match i, hi with
    | 0, _ | 1, _ | 2, _ | 3, _ | 4, _ | 5, _ | 6, _ => rfl)
  have hB4 := (hB3.grown (setCell_one _ b1 2 (.int .i64 8)) hB3.size (by intro g e; simp at e; omega))
  change Code.wp _ _ _ _ (wk.setCell ⟨b1, 2, none⟩ (.int .i64 8))
  obtain ⟨w3, hw3⟩ : ∃ w3, wk.setCell ⟨b1, 2, none⟩ (.int .i64 8) = w3 := ⟨_, rfl⟩
  rw [hw3] at hrow4 hB4 ⊢
  have y0 : w3.cell? ⟨b1, 0, none⟩ = some (.int .i64 2) := World.rowIs.cell (i := 0) hrow4 (by omega)
  have y1 : w3.cell? ⟨b1, 1, none⟩ = some (.int .i64 60) := World.rowIs.cell (i := 1) hrow4 (by omega)
  have y2 : w3.cell? ⟨b1, 2, none⟩ = some (.int .i64 8) := World.rowIs.cell (i := 2) hrow4 (by omega)
  have y3 : w3.cell? ⟨b1, 3, none⟩ = some (.int .i64 10) := World.rowIs.cell (i := 3) hrow4 (by omega)
  have y4 : w3.cell? ⟨b1, 4, none⟩ = some (.int .i64 4) := World.rowIs.cell (i := 4) hrow4 (by omega)
  have y5 : w3.cell? ⟨b1, 5, none⟩ = some (.int .i64 3) := World.rowIs.cell (i := 5) hrow4 (by omega)
  have y6 : w3.cell? ⟨b1, 6, none⟩ = some (.int .i64 1) := World.rowIs.cell (i := 6) hrow4 (by omega)
  have HB := Lib.hid hB4
  clear x6 f0 hrow3 hB3 hle hrow4 hB4 hw3 HM
  obtain ⟨u1, u2, u3, u4⟩ := waUp
  have HUP := Lib.hid (show Calls Tryz.prog 16 #[.agg #[.int .i64 2, .int .i64 60, .int .i64 8, .int .i64 10, .int .i64 4, .int .i64 3, .int .i64 1]] w3 _ from up_any (w0 := W) 2 60 8 10 4 3 1 w3 (fun _ => 0) 1 (by omega) HB.out rfl (fun k _ => by unfold Es; omega) u1 u2 u3 u4)
  clear u1 u2 u3 u4
  go_wp2_with fail
  refine HUP.out.mono ?_
  rintro e w4 ⟨b, L4, rfl, hx, -⟩
  have H4 := Lib.hid (show EV W w4 L4 1 b (upE waC) 2 from hx)
  clear hx HUP HB
  clear y0 y1 y2 y3 y4 y5 y6
  go_wp2_with fail
  refine (H4.out.writeLit (by omega) (m := 12) (ys := [48, 49, 50, 51, 52, 53, 54, 55, 56, 57, 97, 98]) rfl rfl rfl (by omega) (by decide) r1).mono ?_
  rintro e w5 ⟨rfl, L5, hx, ht⟩
  have H5 := Lib.hid (show EV W w5 L5 1 b wa1 3 from hx)
  clear hx ht H4
  go_wp2_with fail
  refine (H5.out.data 1 0 _ false [48, 49, 50, 51, 52, 53, 54, 55] 8 (by kernel_rfl) rfl (by decide) (by omega)).mono ?_
  rintro e w6 ⟨qa, ca, L6, rfl, hx, hs, ht, hqa⟩
  have H6 := Lib.hid hx
  have Sa := Lib.hid hs
  clear hx hs ht hqa H5
  have HS := Lib.hid (show Calls Tryz.prog 19 #[.pointer (some ⟨b, 0, none⟩), .slice (some ⟨w6.heap.size, 0, none⟩) 1 1] (w6.alloc (.cells #[.int .i64 3, .int .i64 0, .int .i64 1, .int .i64 0, .int .i64 0, .slice (some ⟨qa, 0, none⟩) 8 ca, .bool false, .int .i64 0, .int .i64 0] 32)) _ from H6.out.saidSee (by omega) [⟨⟨3, 0, 1, 0, 0, [48, 49, 50, 51, 52, 53, 54, 55], false, 0, 0⟩, some ⟨qa, 0, none⟩, ca⟩] (see1 Sa.out) rfl rfl rfl r2 rfl (by unfold maxLen; simp))
  go_wp2_with fail
  refine HS.out.mono ?_
  rintro e w7 ⟨rfl, L7, hx, ht⟩
  have H7 := Lib.hid (show EV W w7 L7 1 b wa2 3 from hx)
  clear hx ht H6 HS
  clear Sa
  go_wp2_with fail
  refine (H7.out.tick (by omega) 2 r3).mono ?_
  rintro e w8 ⟨rfl, L8, hx, ht⟩
  have H8 := Lib.hid (show EV W w8 L8 1 b wa3 4 from hx)
  clear hx ht H7
  go_wp2_with fail
  refine (H8.out.saidNo (by omega) r4).mono ?_
  rintro e w9 ⟨rfl, L9, hx, ht⟩
  have H9 := Lib.hid (show EV W w9 L9 1 b wa4 4 from hx)
  clear hx ht H8
  go_wp2_with fail
  refine (lack_any 1 8 8 _).mono ?_
  rintro e w10 ⟨rfl, hb⟩
  have H10 := Lib.hid (H9.out.later hb)
  clear hb H9
  have HS := Lib.hid (show Calls Tryz.prog 22 #[.pointer (some ⟨b, 0, none⟩), .agg #[.int .i64 4, .int .i64 0, .int .i64 0, .int .i64 1, .int .i64 0, .slice none 0 0, .bool false, .int .i64 8, .int .i64 8]] w10 _ from H10.out.comeP (by omega) 4 0 0 1 0 false 8 8 (by decide) r5)
  go_wp2_with fail
  refine HS.out.mono ?_
  rintro e w11 ⟨rfl, L11, hx, ht⟩
  have H11 := Lib.hid (show EV W w11 L11 1 b wa5 5 from hx)
  clear hx ht H10 HS
  go_wp2_with fail
  refine (H11.out.saidNo (by omega) r6).mono ?_
  rintro e w12 ⟨rfl, L12, hx, ht⟩
  have H12 := Lib.hid (show EV W w12 L12 1 b wa6 5 from hx)
  clear hx ht H11
  go_wp2_with fail
  refine (H12.out.tick (by omega) 3 r7).mono ?_
  rintro e w13 ⟨rfl, L13, hx, ht⟩
  have H13 := Lib.hid (show EV W w13 L13 1 b wa7 6 from hx)
  clear hx ht H12
  go_wp2_with fail
  refine (H13.out.data 2 8 _ false [] 0 (by kernel_rfl) rfl (by decide) (by omega)).mono ?_
  rintro e w14 ⟨qb, cb, L14, rfl, hx, hs, ht, hqb⟩
  have H14 := Lib.hid hx
  have Sb := Lib.hid hs
  clear hx hs ht hqb H13
  have HS := Lib.hid (show Calls Tryz.prog 19 #[.pointer (some ⟨b, 0, none⟩), .slice (some ⟨w14.heap.size, 0, none⟩) 1 1] (w14.alloc (.cells #[.int .i64 3, .int .i64 0, .int .i64 2, .int .i64 0, .int .i64 8, .slice (some ⟨qb, 0, none⟩) 0 cb, .bool false, .int .i64 0, .int .i64 0] 32)) _ from H14.out.saidSee (by omega) [⟨⟨3, 0, 2, 0, 8, [], false, 0, 0⟩, some ⟨qb, 0, none⟩, cb⟩] (see1 Sb.out) rfl rfl rfl r8 rfl (by unfold maxLen; simp))
  go_wp2_with fail
  refine HS.out.mono ?_
  rintro e w15 ⟨rfl, L15, hx, ht⟩
  have H15 := Lib.hid (show EV W w15 L15 1 b wa8 6 from hx)
  clear hx ht H14 HS
  clear Sb
  go_wp2_with fail
  refine (H15.out.tick (by omega) 4 r9).mono ?_
  rintro e w16 ⟨rfl, L16, hx, ht⟩
  have H16 := Lib.hid (show EV W w16 L16 1 b wa9 7 from hx)
  clear hx ht H15
  go_wp2_with fail
  refine (H16.out.saidNo (by omega) r10).mono ?_
  rintro e w17 ⟨rfl, L17, hx, ht⟩
  have H17 := Lib.hid (show EV W w17 L17 1 b wa10 7 from hx)
  clear hx ht H16
  go_wp2_with fail
  refine (lack_any 2 8 8 _).mono ?_
  rintro e w18 ⟨rfl, hb⟩
  have H18 := Lib.hid (H17.out.later hb)
  clear hb H17
  have HS := Lib.hid (show Calls Tryz.prog 22 #[.pointer (some ⟨b, 0, none⟩), .agg #[.int .i64 4, .int .i64 0, .int .i64 0, .int .i64 2, .int .i64 0, .slice none 0 0, .bool false, .int .i64 8, .int .i64 8]] w18 _ from H18.out.comeP (by omega) 4 0 0 2 0 false 8 8 (by decide) r11)
  go_wp2_with fail
  refine HS.out.mono ?_
  rintro e w19 ⟨rfl, L19, hx, ht⟩
  have H19 := Lib.hid (show EV W w19 L19 1 b wa11 8 from hx)
  clear hx ht H18 HS
  go_wp2_with fail
  refine (H19.out.saidNo (by omega) r12).mono ?_
  rintro e w20 ⟨rfl, L20, hx, ht⟩
  have H20 := Lib.hid (show EV W w20 L20 1 b wa12 8 from hx)
  clear hx ht H19
  go_wp2_with fail
  refine (H20.out.tick (by omega) 5 r13).mono ?_
  rintro e w21 ⟨rfl, L21, hx, ht⟩
  have H21 := Lib.hid (show EV W w21 L21 1 b wa13 9 from hx)
  clear hx ht H20
  go_wp2_with fail
  refine (H21.out.data 3 8 _ false [] 0 (by kernel_rfl) rfl (by decide) (by omega)).mono ?_
  rintro e w22 ⟨qc, cc, L22, rfl, hx, hs, ht, hqc⟩
  have H22 := Lib.hid hx
  have Sc := Lib.hid hs
  clear hx hs ht hqc H21
  have HS := Lib.hid (show Calls Tryz.prog 19 #[.pointer (some ⟨b, 0, none⟩), .slice (some ⟨w22.heap.size, 0, none⟩) 1 1] (w22.alloc (.cells #[.int .i64 3, .int .i64 0, .int .i64 3, .int .i64 0, .int .i64 8, .slice (some ⟨qc, 0, none⟩) 0 cc, .bool false, .int .i64 0, .int .i64 0] 32)) _ from H22.out.saidSee (by omega) [⟨⟨3, 0, 3, 0, 8, [], false, 0, 0⟩, some ⟨qc, 0, none⟩, cc⟩] (see1 Sc.out) rfl rfl rfl r14 rfl (by unfold maxLen; simp))
  go_wp2_with fail
  refine HS.out.mono ?_
  rintro e w23 ⟨rfl, L23, hx, ht⟩
  have H23 := Lib.hid (show EV W w23 L23 1 b wa14 9 from hx)
  clear hx ht H22 HS
  clear Sc
  go_wp2_with fail
  refine (HW.out _).mono ?_
  rintro e w' ⟨rfl, rfl⟩
  clear HW
  have hw2 := HB1.out.1
  have hw4 := HB1.out.2
  have b3 : (0 : Int) ≤ (m : Int) := by omega
  have b4 : (m : Int) ≤ 4 := by have := HM2.out; omega
  go_wp2_with fail
  refine (lack_any 3 8 ((8 + m : Nat) : Int) _).mono ?_
  rintro e w24 ⟨rfl, hb⟩
  have H24 := Lib.hid (H23.out.later hb)
  clear hb H23
  have HS := Lib.hid (show Calls Tryz.prog 22 #[.pointer (some ⟨b, 0, none⟩), .agg #[.int .i64 4, .int .i64 0, .int .i64 0, .int .i64 3, .int .i64 0, .slice none 0 0, .bool false, .int .i64 8, .int .i64 ((8 + m : Nat) : Int)]] w24 _ from H24.out.comeP (by omega) 4 0 0 3 0 false 8 ((8 + m : Nat) : Int) (by have := HM2.out; simp; omega) r15)
  go_wp2_with fail
  refine HS.out.mono ?_
  rintro e w25 ⟨rfl, L25, hx, ht⟩
  have H25 := Lib.hid (show EV W w25 L25 1 b (wa15 m) 10 from hx)
  clear hx ht H24 HS
  go_wp2_with fail
  refine (H25.out.data 4 8 _ false (([56, 57, 97, 98] : List Int).take m) m (by rcases HM4.out with rfl | rfl | rfl | rfl <;> kernel_rfl) HLE.out (by decide) (by omega)).mono ?_
  rintro e w26 ⟨qd, cd, L26, rfl, hx, hs, ht, hqd⟩
  have H26 := Lib.hid hx
  have Sd := Lib.hid hs
  clear hx hs ht hqd H25
  have HS := Lib.hid (show Calls Tryz.prog 19 #[.pointer (some ⟨b, 0, none⟩), .slice (some ⟨w26.heap.size, 0, none⟩) 1 1] (w26.alloc (.cells #[.int .i64 3, .int .i64 0, .int .i64 4, .int .i64 0, .int .i64 8, .slice (some ⟨qd, 0, none⟩) m cd, .bool false, .int .i64 0, .int .i64 0] 32)) _ from H26.out.saidSee (by omega) [⟨⟨3, 0, 4, 0, 8, (([56, 57, 97, 98] : List Int).take m), false, 0, 0⟩, some ⟨qd, 0, none⟩, cd⟩] (see1 Sd.out) (by rw [show (pks [⟨⟨3, 0, 4, 0, 8, (([56, 57, 97, 98] : List Int).take m), false, 0, 0⟩, some ⟨qd, 0, none⟩, cd⟩]).toArray = #[.int .i64 3, .int .i64 0, .int .i64 4, .int .i64 0, .int .i64 8, .slice (some ⟨qd, 0, none⟩) ((([56, 57, 97, 98] : List Int).take m).length) cd, .bool false, .int .i64 0, .int .i64 0] from rfl, HLE.out]) rfl rfl r16 rfl (by unfold maxLen; simp))
  go_wp2_with fail
  refine HS.out.mono ?_
  rintro e w27 ⟨rfl, L27, hx, ht⟩
  have H27 := Lib.hid (show EV W w27 L27 1 b (wa16 m) 10 from hx)
  clear hx ht H26 HS
  clear Sd
  have HF := Lib.hid H27.out.bel
  clear H27
  go_wp2_with fail
  refine (wakes19_any _).mono ?_
  rintro e wz ⟨rfl, hb⟩
  have HFIN := Lib.hid (HF.out.trans (hb.mono HF.out.size))
  clear hb HF
  go_wp2
  go_ret
  exact ⟨rfl, HFIN.out⟩
end Go.Proofs.YtpjlnpnadkbakaaGreat
