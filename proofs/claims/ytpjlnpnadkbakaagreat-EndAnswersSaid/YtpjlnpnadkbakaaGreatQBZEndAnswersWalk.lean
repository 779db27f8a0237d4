/-
  The walk of EndAnswers.
-/
import Derived.Test.YtpjlnpnadkbakaaGreatQBPrEvK
import Derived.Test.YtpjlnpnadkbakaaGreatQBZPrSame
import Derived.Deep.CutBlock
import Derived.Deep.DeepCutAuto
import Derived.Lib.SlBytesConst
namespace Go.Proofs.YtpjlnpnadkbakaaGreat
set_option maxRecDepth 10000
open Go.RowKit
def anC : Cg := ⟨((2 : Nat) : Int), 60, 10, 10, 4, 3, 1⟩
theorem anUp : (En.new anC 0).mayU 0 = true ∧ ((En.new anC 0).up 0).out = [joinP] ∧ ((En.new anC 0).up 0).taken.mayC joinedP = true ∧ (((En.new anC 0).up 0).taken.come joinedP).out = [] := by
  refine ⟨?_, ?_, ?_, ?_⟩ <;> kernel_rfl
noncomputable def an1 (z : Nat) : En := (upE anC).comeC ⟨3, 0, (z : Int), 0, 3, [51, 52, 53], false, 0, 0⟩
noncomputable def an2 (z : Nat) : En := (an1 z).taken
noncomputable def an3 (z : Nat) : En := (an2 z).comeC ⟨3, 0, (z : Int), 0, 3, [51, 52, 53], false, 0, 0⟩
noncomputable def an4 (z : Nat) : En := (an3 z).taken
noncomputable def an5 (z : Nat) : En := (an4 z).comeC ⟨3, 0, ((z + 1 : Nat) : Int), 0, 0, [48, 49, 50], false, 0, 0⟩
noncomputable def an6 (z : Nat) : En := (an5 z).taken
noncomputable def an7 (z : Nat) : En := (an6 z).read 4
noncomputable def an8 (z : Nat) : En := (an7 z).taken
noncomputable def an9 (z : Nat) : En := (an8 z).comeC ⟨3, 0, ((z + 2 : Nat) : Int), 0, 6, [54, 55, 56, 57, 97, 98, 99, 100, 101, 102, 103, 104], true, 0, 0⟩
noncomputable def an10 (z : Nat) : En := (an9 z).taken
noncomputable def an11 (z : Nat) : En := (an10 z).read 99
noncomputable def an12 (z : Nat) : En := (an11 z).comeC ⟨3, 0, ((z + 3 : Nat) : Int), 0, 14, [101, 102, 103, 104], true, 0, 0⟩
noncomputable def an13 (z : Nat) : En := (an12 z).taken
noncomputable def an14 (z : Nat) : En := (an13 z).read 9
noncomputable def anZB (z : Nat) : Bool := ((upE anC).mayC ⟨3, 0, (z : Int), 0, 3, [51, 52, 53], false, 0, 0⟩) && (decide ((an1 z).out = [⟨4, 0, 1, (z : Int), 0, [], false, 0, 10⟩])) && ((an2 z).mayC ⟨3, 0, (z : Int), 0, 3, [51, 52, 53], false, 0, 0⟩) && (decide ((an3 z).out = [⟨4, 0, 2, (z : Int), 0, [], false, 0, 10⟩])) && ((an4 z).mayC ⟨3, 0, ((z + 1 : Nat) : Int), 0, 0, [48, 49, 50], false, 0, 0⟩) && (decide ((an5 z).out = [⟨4, 0, 3, ((z + 1 : Nat) : Int), 0, [], false, 6, 10⟩])) && (decide ((an6 z).readN 4 = [48, 49, 50, 51])) && (decide ((an7 z).out = [])) && ((an8 z).mayC ⟨3, 0, ((z + 2 : Nat) : Int), 0, 6, [54, 55, 56, 57, 97, 98, 99, 100, 101, 102, 103, 104], true, 0, 0⟩) && (decide ((an9 z).out = [⟨4, 0, 4, ((z + 2 : Nat) : Int), 0, [], false, 14, 14⟩])) && (decide ((an10 z).readN 99 = [52, 53, 54, 55, 56, 57, 97, 98, 99, 100])) && ((an11 z).mayC ⟨3, 0, ((z + 3 : Nat) : Int), 0, 14, [101, 102, 103, 104], true, 0, 0⟩) && (decide ((an12 z).out = [⟨4, 0, 5, ((z + 3 : Nat) : Int), 0, [], false, 19, 24⟩])) && (decide ((an13 z).readN 9 = [101, 102, 103, 104])) && (!(an14 z).done)
theorem anZA : (List.range 60).all (fun z => anZB z) = true := by kernel_rfl
theorem anZ (z : Nat) (h1 : z < 60) : (upE anC).mayC ⟨3, 0, (z : Int), 0, 3, [51, 52, 53], false, 0, 0⟩ = true ∧ (an1 z).out = [⟨4, 0, 1, (z : Int), 0, [], false, 0, 10⟩] ∧ (an2 z).mayC ⟨3, 0, (z : Int), 0, 3, [51, 52, 53], false, 0, 0⟩ = true ∧ (an3 z).out = [⟨4, 0, 2, (z : Int), 0, [], false, 0, 10⟩] ∧ (an4 z).mayC ⟨3, 0, ((z + 1 : Nat) : Int), 0, 0, [48, 49, 50], false, 0, 0⟩ = true ∧ (an5 z).out = [⟨4, 0, 3, ((z + 1 : Nat) : Int), 0, [], false, 6, 10⟩] ∧ (an6 z).readN 4 = [48, 49, 50, 51] ∧ (an7 z).out = [] ∧ (an8 z).mayC ⟨3, 0, ((z + 2 : Nat) : Int), 0, 6, [54, 55, 56, 57, 97, 98, 99, 100, 101, 102, 103, 104], true, 0, 0⟩ = true ∧ (an9 z).out = [⟨4, 0, 4, ((z + 2 : Nat) : Int), 0, [], false, 14, 14⟩] ∧ (an10 z).readN 99 = [52, 53, 54, 55, 56, 57, 97, 98, 99, 100] ∧ (an11 z).mayC ⟨3, 0, ((z + 3 : Nat) : Int), 0, 14, [101, 102, 103, 104], true, 0, 0⟩ = true ∧ (an12 z).out = [⟨4, 0, 5, ((z + 3 : Nat) : Int), 0, [], false, 19, 24⟩] ∧ (an13 z).readN 9 = [101, 102, 103, 104] ∧ (an14 z).done = false := by
  have h := List.all_eq_true.1 anZA z (List.mem_range.2 h1)
  simp only [anZB, Bool.and_eq_true, decide_eq_true_eq, Bool.not_eq_true'] at h
  obtain ⟨⟨⟨⟨⟨⟨⟨⟨⟨⟨⟨⟨⟨⟨h0, h1⟩, h2⟩, h3⟩, h4⟩, h5⟩, h6⟩, h7⟩, h8⟩, h9⟩, h10⟩, h11⟩, h12⟩, h13⟩, h14⟩ := h
  exact ⟨h0, h1, h2, h3, h4, h5, h6, h7, h8, h9, h10, h11, h12, h13, h14⟩
set_option maxHeartbeats 8000000 in
theorem endAnswers_walk (n : Int) (W : World) : Calls Tryz.prog 6 #[.int .i64 n] W fun e W' => e = .returned (.bool true) ∧ Below W.heap.size W W' := by
  have HW := Lib.hid (fun w => within_any n 60 w (by omega) (by omega))
  obtain ⟨z, hz⟩ : ∃ z : Nat, n % 60 = (z : Int) := ⟨(n % 60).toNat, by omega⟩
  have hz60 : z < 60 := by omega
  have HB1 := Lib.hid (show wrap64 ((z : Int) + 1) = ((z + 1 : Nat) : Int) ∧ wrap64 ((z : Int) + 2) = ((z + 2 : Nat) : Int) ∧ wrap64 ((z : Int) + 3) = ((z + 3 : Nat) : Int) from ⟨by unfold wrap64; omega, by unfold wrap64; omega, by unfold wrap64; omega⟩)
  have HZ := Lib.hid hz60
  rw [hz] at HW
  obtain ⟨r1, r2, r3, r4, r5, r6, r7, r8, r9, r10, r11, r12, r13, r14, r15⟩ := anZ z hz60
  clear hz hz60
  have kc := fun (w : World) (C : Array Value) (n c : Nat) => Lib.run_convert_bytes_const (P := Tryz.prog) w 29 5 C n c Tryz.underlying29 Tryz.underlying5
  go_enter Tryz.func6, Tryz.ntmps6
  go_wp2_with fail
  refine (plain_any _).mono ?_
  rintro e w1 ⟨rfl, hb1⟩
  obtain ⟨b1, hb1q⟩ : ∃ b, w1.heap.size = b := ⟨_, rfl⟩
  have hle : W.heap.size ≤ b1 := by rw [← hb1q]; exact hb1.size
  have hB2 : Below W.heap.size W (w1.alloc (.cells #[.int .i64 0, .int .i64 0, .int .i64 0, .int .i64 0, .int .i64 0, .int .i64 0, .int .i64 0] 26)) := hb1.alloc hb1.size _
  have hrow : (w1.alloc (.cells #[.int .i64 0, .int .i64 0, .int .i64 0, .int .i64 0, .int .i64 0, .int .i64 0, .int .i64 0] 26)).rowIs b1 tCf 7 (cfF ⟨0, 0, 0, 0, 0, 0, 0⟩) := by
    rw [← hb1q]
    exact World.rowIs_alloc w1 _ _ _ (fun i hi => by
      match i, hi with
      | 0, _ | 1, _ | 2, _ | 3, _ | 4, _ | 5, _ | 6, _ => rfl)
  obtain ⟨w2, hw2⟩ : ∃ w2, w1.alloc (.cells #[.int .i64 0, .int .i64 0, .int .i64 0, .int .i64 0, .int .i64 0, .int .i64 0, .int .i64 0] 26) = w2 := ⟨_, rfl⟩
  rw [hw2] at hB2 hrow
  have hrow3 := st7_row hrow ⟨2, 60, 50, 10, 4, 3, 1⟩
  have hB3 := hB2.grown (st7_grown w2 b1 ⟨2, 60, 50, 10, 4, 3, 1⟩) hB2.size (by intro g e; simp at e; omega)
  have f0 : ∀ i, w2.frozen? ⟨b1, i, none⟩ = false := World.rowIs.frozen hrow
  have x0 : w2.cell? ⟨b1, 0, none⟩ = some (.int .i64 0) := World.rowIs.cell (i := 0) hrow (by omega)
  have x1 : w2.cell? ⟨b1, 1, none⟩ = some (.int .i64 0) := World.rowIs.cell (i := 1) hrow (by omega)
  have x2 : w2.cell? ⟨b1, 2, none⟩ = some (.int .i64 0) := World.rowIs.cell (i := 2) hrow (by omega)
  have x3 : w2.cell? ⟨b1, 3, none⟩ = some (.int .i64 0) := World.rowIs.cell (i := 3) hrow (by omega)
  have x4 : w2.cell? ⟨b1, 4, none⟩ = some (.int .i64 0) := World.rowIs.cell (i := 4) hrow (by omega)
  have x5 : w2.cell? ⟨b1, 5, none⟩ = some (.int .i64 0) := World.rowIs.cell (i := 5) hrow (by omega)
  have x6 : w2.cell? ⟨b1, 6, none⟩ = some (.int .i64 0) := World.rowIs.cell (i := 6) hrow (by omega)
  clear hb1 hrow hB2
  go_upto_region 2 with (fail)
  change Code.wp _ _ _ _ (st7 w2 b1 ⟨2, 60, 50, 10, 4, 3, 1⟩)
  obtain ⟨wk, hwk⟩ : ∃ wk, st7 w2 b1 ⟨2, 60, 50, 10, 4, 3, 1⟩ = wk := ⟨_, rfl⟩
  rw [hwk] at hrow3 hB3 ⊢
  clear x0 x1 x2 x3 x4 x5 x6 f0 hwk hw2 w2 hb1q
  have f0 : ∀ i, wk.frozen? ⟨b1, i, none⟩ = false := World.rowIs.frozen hrow3
  have x6 : wk.cell? ⟨b1, 2, none⟩ = some (.int .i64 50) := World.rowIs.cell (i := 2) hrow3 (by omega)
  have HM := Lib.hid (And.intro hrow3 (And.intro hB3 hle))
  clear hrow3 hB3 hle
  go_upto_region 3 with (fail)
  obtain ⟨hrow3, hB3, hle⟩ := HM.out
  have hrow4 := World.rowIs.congr (g := cfF ⟨2, 60, 10, 10, 4, 3, 1⟩) (World.rowIs.set hrow3 2 (.int .i64 10)) (fun i hi => by
    match i, hi with
    | 0, _ | 1, _ | 2, _ | 3, _ | 4, _ | 5, _ | 6, _ => rfl)
  have hB4 := (hB3.grown (setCell_one _ b1 2 (.int .i64 10)) hB3.size (by intro g e; simp at e; omega))
  change Code.wp _ _ _ _ (wk.setCell ⟨b1, 2, none⟩ (.int .i64 10))
  obtain ⟨w3, hw3⟩ : ∃ w3, wk.setCell ⟨b1, 2, none⟩ (.int .i64 10) = w3 := ⟨_, rfl⟩
  rw [hw3] at hrow4 hB4 ⊢
  have y0 : w3.cell? ⟨b1, 0, none⟩ = some (.int .i64 2) := World.rowIs.cell (i := 0) hrow4 (by omega)
  have y1 : w3.cell? ⟨b1, 1, none⟩ = some (.int .i64 60) := World.rowIs.cell (i := 1) hrow4 (by omega)
  have y2 : w3.cell? ⟨b1, 2, none⟩ = some (.int .i64 10) := World.rowIs.cell (i := 2) hrow4 (by omega)
  have y3 : w3.cell? ⟨b1, 3, none⟩ = some (.int .i64 10) := World.rowIs.cell (i := 3) hrow4 (by omega)
  have y4 : w3.cell? ⟨b1, 4, none⟩ = some (.int .i64 4) := World.rowIs.cell (i := 4) hrow4 (by omega)
  have y5 : w3.cell? ⟨b1, 5, none⟩ = some (.int .i64 3) := World.rowIs.cell (i := 5) hrow4 (by omega)
  have y6 : w3.cell? ⟨b1, 6, none⟩ = some (.int .i64 1) := World.rowIs.cell (i := 6) hrow4 (by omega)
  have HB := Lib.hid hB4
  clear x6 f0 hrow3 hB3 hle hrow4 hB4 hw3 HM
  obtain ⟨u1, u2, u3, u4⟩ := anUp
  have HUP := Lib.hid (show Calls Tryz.prog 16 #[.agg #[.int .i64 2, .int .i64 60, .int .i64 10, .int .i64 10, .int .i64 4, .int .i64 3, .int .i64 1]] w3 _ from up_any (w0 := W) 2 60 10 10 4 3 1 w3 (fun _ => 0) 1 (by omega) HB.out rfl (fun k _ => by unfold Es; omega) u1 u2 u3 u4)
  clear u1 u2 u3 u4
  go_wp2_with fail
  refine HUP.out.mono ?_
  rintro e w4 ⟨b, L4, rfl, hx, -⟩
  have H4 := Lib.hid (show EV W w4 L4 1 b (upE anC) 2 from hx)
  clear hx HUP HB
  clear y0 y1 y2 y3 y4 y5 y6
  go_wp2_with fail
  refine (HW.out _).mono ?_
  rintro e w' ⟨rfl, rfl⟩
  clear HW
  have hw1 := HB1.out.1
  have hw2 := HB1.out.2.1
  have hw3 := HB1.out.2.2
  go_wp2_with fail
  refine (H4.out.data (z : Int) 3 _ false [51, 52, 53] 3 (by kernel_rfl) rfl (by have := HZ.out; simp; omega) (by omega)).mono ?_
  rintro e w5 ⟨qa, ca, L5, rfl, hx, hs, ht, hqa⟩
  have H5 := Lib.hid hx
  have Sa := Lib.hid hs
  clear hx hs ht hqa H4
  have HS := Lib.hid (show Calls Tryz.prog 22 #[.pointer (some ⟨b, 0, none⟩), .agg #[.int .i64 3, .int .i64 0, .int .i64 (z : Int), .int .i64 0, .int .i64 3, .slice (some ⟨qa, 0, none⟩) 3 ca, .bool false, .int .i64 0, .int .i64 0]] w5 _ from H5.out.comeSee (by omega) ⟨⟨3, 0, (z : Int), 0, 3, [51, 52, 53], false, 0, 0⟩, some ⟨qa, 0, none⟩, ca⟩ Sa.out (by simp) r1)
  go_wp2_with fail
  refine HS.out.mono ?_
  rintro e w6 ⟨rfl, L6, hx, ht⟩
  have H6 := Lib.hid (show EV W w6 L6 1 b (an1 z) 3 from hx)
  clear hx ht H5 HS
  clear Sa
  go_wp2_with fail
  refine (ansP_any 1 (z : Int) 0 10 _).mono ?_
  rintro e w7 ⟨rfl, hb⟩
  have H7 := Lib.hid (H6.out.later hb)
  clear hb H6
  have HS := Lib.hid (show Calls Tryz.prog 19 #[.pointer (some ⟨b, 0, none⟩), .slice (some ⟨w7.heap.size, 0, none⟩) 1 1] (w7.alloc (.cells #[.int .i64 4, .int .i64 0, .int .i64 1, .int .i64 (z : Int), .int .i64 0, .slice none 0 0, .bool false, .int .i64 0, .int .i64 10] 32)) _ from H7.out.saidSee (by omega) [⟨⟨4, 0, 1, (z : Int), 0, [], false, 0, 10⟩, none, 0⟩] (see1 (See.plain _ _ 4 0 1 (z : Int) 0 false 0 10 (by have := HZ.out; simp; omega))) rfl rfl rfl r2 rfl (by unfold maxLen; simp))
  go_wp2_with fail
  refine HS.out.mono ?_
  rintro e w8 ⟨rfl, L8, hx, ht⟩
  have H8 := Lib.hid (show EV W w8 L8 1 b (an2 z) 3 from hx)
  clear hx ht H7 HS
  go_wp2_with fail
  refine (H8.out.data (z : Int) 3 _ false [51, 52, 53] 3 (by kernel_rfl) rfl (by have := HZ.out; simp; omega) (by omega)).mono ?_
  rintro e w9 ⟨qb, cb, L9, rfl, hx, hs, ht, hqb⟩
  have H9 := Lib.hid hx
  have Sb := Lib.hid hs
  clear hx hs ht hqb H8
  have HS := Lib.hid (show Calls Tryz.prog 22 #[.pointer (some ⟨b, 0, none⟩), .agg #[.int .i64 3, .int .i64 0, .int .i64 (z : Int), .int .i64 0, .int .i64 3, .slice (some ⟨qb, 0, none⟩) 3 cb, .bool false, .int .i64 0, .int .i64 0]] w9 _ from H9.out.comeSee (by omega) ⟨⟨3, 0, (z : Int), 0, 3, [51, 52, 53], false, 0, 0⟩, some ⟨qb, 0, none⟩, cb⟩ Sb.out (by simp) r3)
  go_wp2_with fail
  refine HS.out.mono ?_
  rintro e w10 ⟨rfl, L10, hx, ht⟩
  have H10 := Lib.hid (show EV W w10 L10 1 b (an3 z) 4 from hx)
  clear hx ht H9 HS
  clear Sb
  go_wp2_with fail
  refine (ansP_any 2 (z : Int) 0 10 _).mono ?_
  rintro e w11 ⟨rfl, hb⟩
  have H11 := Lib.hid (H10.out.later hb)
  clear hb H10
  have HS := Lib.hid (show Calls Tryz.prog 19 #[.pointer (some ⟨b, 0, none⟩), .slice (some ⟨w11.heap.size, 0, none⟩) 1 1] (w11.alloc (.cells #[.int .i64 4, .int .i64 0, .int .i64 2, .int .i64 (z : Int), .int .i64 0, .slice none 0 0, .bool false, .int .i64 0, .int .i64 10] 32)) _ from H11.out.saidSee (by omega) [⟨⟨4, 0, 2, (z : Int), 0, [], false, 0, 10⟩, none, 0⟩] (see1 (See.plain _ _ 4 0 2 (z : Int) 0 false 0 10 (by have := HZ.out; simp; omega))) rfl rfl rfl r4 rfl (by unfold maxLen; simp))
  go_wp2_with fail
  refine HS.out.mono ?_
  rintro e w12 ⟨rfl, L12, hx, ht⟩
  have H12 := Lib.hid (show EV W w12 L12 1 b (an4 z) 4 from hx)
  clear hx ht H11 HS
  go_wp2_with fail
  refine (H12.out.data ((z + 1 : Nat) : Int) 0 _ false [48, 49, 50] 3 (by kernel_rfl) rfl (by have := HZ.out; simp; omega) (by omega)).mono ?_
  rintro e w13 ⟨qc, cc, L13, rfl, hx, hs, ht, hqc⟩
  have H13 := Lib.hid hx
  have Sc := Lib.hid hs
  clear hx hs ht hqc H12
  have HS := Lib.hid (show Calls Tryz.prog 22 #[.pointer (some ⟨b, 0, none⟩), .agg #[.int .i64 3, .int .i64 0, .int .i64 ((z + 1 : Nat) : Int), .int .i64 0, .int .i64 0, .slice (some ⟨qc, 0, none⟩) 3 cc, .bool false, .int .i64 0, .int .i64 0]] w13 _ from H13.out.comeSee (by omega) ⟨⟨3, 0, ((z + 1 : Nat) : Int), 0, 0, [48, 49, 50], false, 0, 0⟩, some ⟨qc, 0, none⟩, cc⟩ Sc.out (by simp) r5)
  go_wp2_with fail
  refine HS.out.mono ?_
  rintro e w14 ⟨rfl, L14, hx, ht⟩
  have H14 := Lib.hid (show EV W w14 L14 1 b (an5 z) 5 from hx)
  clear hx ht H13 HS
  clear Sc
  go_wp2_with fail
  refine (ansP_any 3 ((z + 1 : Nat) : Int) 6 10 _).mono ?_
  rintro e w15 ⟨rfl, hb⟩
  have H15 := Lib.hid (H14.out.later hb)
  clear hb H14
  have HS := Lib.hid (show Calls Tryz.prog 19 #[.pointer (some ⟨b, 0, none⟩), .slice (some ⟨w15.heap.size, 0, none⟩) 1 1] (w15.alloc (.cells #[.int .i64 4, .int .i64 0, .int .i64 3, .int .i64 ((z + 1 : Nat) : Int), .int .i64 0, .slice none 0 0, .bool false, .int .i64 6, .int .i64 10] 32)) _ from H15.out.saidSee (by omega) [⟨⟨4, 0, 3, ((z + 1 : Nat) : Int), 0, [], false, 6, 10⟩, none, 0⟩] (see1 (See.plain _ _ 4 0 3 ((z + 1 : Nat) : Int) 0 false 6 10 (by have := HZ.out; simp; omega))) rfl rfl rfl r6 rfl (by unfold maxLen; simp))
  go_wp2_with fail
  refine HS.out.mono ?_
  rintro e w16 ⟨rfl, L16, hx, ht⟩
  have H16 := Lib.hid (show EV W w16 L16 1 b (an6 z) 5 from hx)
  clear hx ht H15 HS
  go_wp2_with fail
  refine (H16.out.read (by omega) 4 (xs := [48, 49, 50, 51]) (m := 4) r7 rfl).mono ?_
  rintro e w17 ⟨A17, c17, L17, rfl, hby, hx, -⟩
  have H17 := Lib.hid (show EV W w17 L17 1 b (an7 z) 6 from hx)
  have HBY := Lib.hid hby
  clear hx hby H16
  go_wp2_with fail
  refine (H17.out.sameLit HBY.out (xs := [48, 49, 50, 51]) rfl rfl rfl (by simp)).mono ?_
  rintro e w18 ⟨rfl, L18, hx, -⟩
  have H18 := Lib.hid hx
  clear hx HBY H17
  go_wp2_with fail
  refine (H18.out.saidNo (by omega) r8).mono ?_
  rintro e w19 ⟨rfl, L19, hx, ht⟩
  have H19 := Lib.hid (show EV W w19 L19 1 b (an8 z) 6 from hx)
  clear hx ht H18
  go_wp2_with fail
  refine (H19.out.data ((z + 2 : Nat) : Int) 6 _ true [54, 55, 56, 57, 97, 98, 99, 100, 101, 102, 103, 104] 12 (by kernel_rfl) rfl (by have := HZ.out; simp; omega) (by omega)).mono ?_
  rintro e w20 ⟨qd, cd, L20, rfl, hx, hs, ht, hqd⟩
  have H20 := Lib.hid hx
  have Sd := Lib.hid hs
  clear hx hs ht hqd H19
  have HS := Lib.hid (show Calls Tryz.prog 22 #[.pointer (some ⟨b, 0, none⟩), .agg #[.int .i64 3, .int .i64 0, .int .i64 ((z + 2 : Nat) : Int), .int .i64 0, .int .i64 6, .slice (some ⟨qd, 0, none⟩) 12 cd, .bool true, .int .i64 0, .int .i64 0]] w20 _ from H20.out.comeSee (by omega) ⟨⟨3, 0, ((z + 2 : Nat) : Int), 0, 6, [54, 55, 56, 57, 97, 98, 99, 100, 101, 102, 103, 104], true, 0, 0⟩, some ⟨qd, 0, none⟩, cd⟩ Sd.out (by simp) r9)
  go_wp2_with fail
  refine HS.out.mono ?_
  rintro e w21 ⟨rfl, L21, hx, ht⟩
  have H21 := Lib.hid (show EV W w21 L21 1 b (an9 z) 7 from hx)
  clear hx ht H20 HS
  clear Sd
  go_wp2_with fail
  refine (ansP_any 4 ((z + 2 : Nat) : Int) 14 14 _).mono ?_
  rintro e w22 ⟨rfl, hb⟩
  have H22 := Lib.hid (H21.out.later hb)
  clear hb H21
  have HS := Lib.hid (show Calls Tryz.prog 19 #[.pointer (some ⟨b, 0, none⟩), .slice (some ⟨w22.heap.size, 0, none⟩) 1 1] (w22.alloc (.cells #[.int .i64 4, .int .i64 0, .int .i64 4, .int .i64 ((z + 2 : Nat) : Int), .int .i64 0, .slice none 0 0, .bool false, .int .i64 14, .int .i64 14] 32)) _ from H22.out.saidSee (by omega) [⟨⟨4, 0, 4, ((z + 2 : Nat) : Int), 0, [], false, 14, 14⟩, none, 0⟩] (see1 (See.plain _ _ 4 0 4 ((z + 2 : Nat) : Int) 0 false 14 14 (by have := HZ.out; simp; omega))) rfl rfl rfl r10 rfl (by unfold maxLen; simp))
  go_wp2_with fail
  refine HS.out.mono ?_
  rintro e w23 ⟨rfl, L23, hx, ht⟩
  have H23 := Lib.hid (show EV W w23 L23 1 b (an10 z) 7 from hx)
  clear hx ht H22 HS
  go_wp2_with fail
  refine (H23.out.read (by omega) 99 (xs := [52, 53, 54, 55, 56, 57, 97, 98, 99, 100]) (m := 10) r11 rfl).mono ?_
  rintro e w24 ⟨A24, c24, L24, rfl, hby, hx, -⟩
  have H24 := Lib.hid (show EV W w24 L24 1 b (an11 z) 8 from hx)
  have HBY := Lib.hid hby
  clear hx hby H23
  go_wp2_with fail
  refine (H24.out.sameLit HBY.out (xs := [52, 53, 54, 55, 56, 57, 97, 98, 99, 100]) rfl rfl rfl (by simp)).mono ?_
  rintro e w25 ⟨rfl, L25, hx, -⟩
  have H25 := Lib.hid hx
  clear hx HBY H24
  go_wp2_with fail
  refine (H25.out.data ((z + 3 : Nat) : Int) 14 _ true [101, 102, 103, 104] 4 (by kernel_rfl) rfl (by have := HZ.out; simp; omega) (by omega)).mono ?_
  rintro e w26 ⟨qe, ce, L26, rfl, hx, hs, ht, hqe⟩
  have H26 := Lib.hid hx
  have Se := Lib.hid hs
  clear hx hs ht hqe H25
  have HS := Lib.hid (show Calls Tryz.prog 22 #[.pointer (some ⟨b, 0, none⟩), .agg #[.int .i64 3, .int .i64 0, .int .i64 ((z + 3 : Nat) : Int), .int .i64 0, .int .i64 14, .slice (some ⟨qe, 0, none⟩) 4 ce, .bool true, .int .i64 0, .int .i64 0]] w26 _ from H26.out.comeSee (by omega) ⟨⟨3, 0, ((z + 3 : Nat) : Int), 0, 14, [101, 102, 103, 104], true, 0, 0⟩, some ⟨qe, 0, none⟩, ce⟩ Se.out (by simp) r12)
  go_wp2_with fail
  refine HS.out.mono ?_
  rintro e w27 ⟨rfl, L27, hx, ht⟩
  have H27 := Lib.hid (show EV W w27 L27 1 b (an12 z) 9 from hx)
  clear hx ht H26 HS
  clear Se
  go_wp2_with fail
  refine (ansP_any 5 ((z + 3 : Nat) : Int) 19 24 _).mono ?_
  rintro e w28 ⟨rfl, hb⟩
  have H28 := Lib.hid (H27.out.later hb)
  clear hb H27
  have HS := Lib.hid (show Calls Tryz.prog 19 #[.pointer (some ⟨b, 0, none⟩), .slice (some ⟨w28.heap.size, 0, none⟩) 1 1] (w28.alloc (.cells #[.int .i64 4, .int .i64 0, .int .i64 5, .int .i64 ((z + 3 : Nat) : Int), .int .i64 0, .slice none 0 0, .bool false, .int .i64 19, .int .i64 24] 32)) _ from H28.out.saidSee (by omega) [⟨⟨4, 0, 5, ((z + 3 : Nat) : Int), 0, [], false, 19, 24⟩, none, 0⟩] (see1 (See.plain _ _ 4 0 5 ((z + 3 : Nat) : Int) 0 false 19 24 (by have := HZ.out; simp; omega))) rfl rfl rfl r13 rfl (by unfold maxLen; simp))
  go_wp2_with fail
  refine HS.out.mono ?_
  rintro e w29 ⟨rfl, L29, hx, ht⟩
  have H29 := Lib.hid (show EV W w29 L29 1 b (an13 z) 9 from hx)
  clear hx ht H28 HS
  go_wp2_with fail
  refine (H29.out.read (by omega) 9 (xs := [101, 102, 103, 104]) (m := 4) r14 rfl).mono ?_
  rintro e w30 ⟨A30, c30, L30, rfl, hby, hx, -⟩
  have H30 := Lib.hid (show EV W w30 L30 1 b (an14 z) 10 from hx)
  have HBY := Lib.hid hby
  clear hx hby H29
  go_wp2_with fail
  refine (H30.out.sameLit HBY.out (xs := [101, 102, 103, 104]) rfl rfl rfl (by simp)).mono ?_
  rintro e w31 ⟨rfl, L31, hx, -⟩
  have H31 := Lib.hid hx
  clear hx HBY H30
  go_wp2_with fail
  refine (H31.out.done r15).mono ?_
  rintro e w32 ⟨rfl, L32, hx, ht⟩
  have H32 := Lib.hid (show EV W w32 L32 1 b (an14 z) 10 from hx)
  clear hx ht H31
  have HF := Lib.hid H32.out.bel
  clear H32
  go_wp2_with fail
  refine (wakes19_any _).mono ?_
  rintro e wz ⟨rfl, hb⟩
  have HFIN := Lib.hid (HF.out.trans (hb.mono HF.out.size))
  clear hb HF
  go_wp2
  go_ret
  exact ⟨rfl, HFIN.out⟩
end Go.Proofs.YtpjlnpnadkbakaaGreat
