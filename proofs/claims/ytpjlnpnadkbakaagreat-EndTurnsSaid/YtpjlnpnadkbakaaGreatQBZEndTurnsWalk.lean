/-
  The walk of EndTurns.
-/
import Derived.Test.YtpjlnpnadkbakaaGreatQBPrEvK
import Derived.Deep.CutBlock
import Derived.Deep.DeepCutAuto
import Derived.Lib.SlBytesConst
namespace Go.Proofs.YtpjlnpnadkbakaaGreat
set_option maxRecDepth 10000
open Go.RowKit
def tuC (s : Int) : Cg := ⟨((2 : Nat) : Int), 60, 50, 10, 4, 3, s⟩
def tuJ : Pkt := ⟨1, 1, 0, 0, 0, [], false, 0, 0⟩
def tuK : Pkt := ⟨2, 1, 0, 0, 0, [], false, 0, 0⟩
def tuX : List Int := [48, 49, 50, 51, 52, 53, 54, 55, 56, 57, 97, 98, 99, 100, 101, 102, 103, 104, 105, 106, 65, 66, 67, 68, 69]
noncomputable def tuE (s : Int) : En := (((upE (tuC s)).up 1).taken.come tuK).taken
def tuD (pa nu fr : Int) (xs : List Int) : Pkt := ⟨3, pa, nu, 0, fr, xs, false, 0, 0⟩
theorem tu2 : (En.new (tuC 2) 0).mayU 0 = true ∧ ((En.new (tuC 2) 0).up 0).out = [joinP] ∧ ((En.new (tuC 2) 0).up 0).taken.mayC joinedP = true ∧ (((En.new (tuC 2) 0).up 0).taken.come joinedP).out = [] ∧
    (upE (tuC 2)).mayU 1 = true ∧ ((upE (tuC 2)).up 1).out = [tuJ] ∧ ((upE (tuC 2)).up 1).taken.mayC tuK = true ∧ (((upE (tuC 2)).up 1).taken.come tuK).out = [] ∧ (tuE 2).takes tuX = 25 ∧ ((tuE 2).write tuX).out = [tuD 0 1 0 [48, 49, 50, 51, 52, 53, 54, 55, 56, 57], tuD 1 1 10 [97, 98, 99, 100, 101, 102, 103, 104, 105, 106], tuD 0 2 20 [65, 66, 67, 68, 69]] := by
  refine ⟨?_, ?_, ?_, ?_, ?_, ?_, ?_, ?_, ?_, ?_⟩ <;> kernel_rfl
theorem tu3 : (En.new (tuC 3) 0).mayU 0 = true ∧ ((En.new (tuC 3) 0).up 0).out = [joinP] ∧ ((En.new (tuC 3) 0).up 0).taken.mayC joinedP = true ∧ (((En.new (tuC 3) 0).up 0).taken.come joinedP).out = [] ∧
    (upE (tuC 3)).mayU 1 = true ∧ ((upE (tuC 3)).up 1).out = [tuJ] ∧ ((upE (tuC 3)).up 1).taken.mayC tuK = true ∧ (((upE (tuC 3)).up 1).taken.come tuK).out = [] ∧ (tuE 3).takes tuX = 25 ∧ ((tuE 3).write tuX).out = [tuD 0 1 0 [48, 49, 50, 51, 52, 53, 54, 55, 56, 57], tuD 1 1 0 [48, 49, 50, 51, 52, 53, 54, 55, 56, 57], tuD 0 2 10 [97, 98, 99, 100, 101, 102, 103, 104, 105, 106], tuD 1 2 10 [97, 98, 99, 100, 101, 102, 103, 104, 105, 106]] := by
  refine ⟨?_, ?_, ?_, ?_, ?_, ?_, ?_, ?_, ?_, ?_⟩ <;> kernel_rfl
theorem turnsQ {w0 w : World} {L : Lab} {K b n : Nat} {E : En} (h : EV w0 w L K b E n) (pa num fr : Int) (s : ByteArray) (xs : List Int) (m : Nat) (hs : sb s = xs) (hm : xs.length = m) (hb : ∀ x ∈ [pa, num, fr], 0 ≤ x ∧ x ≤ 1000000) (hml : m ≤ 64) :
    Calls Tryz.prog 60 #[.int .i64 pa, .int .i64 num, .int .i64 fr, .string s] w fun e w' => ∃ q c L', e = .returned (.agg #[.int .i64 3, .int .i64 pa, .int .i64 num, .int .i64 0, .int .i64 fr, .slice (some ⟨q, 0, none⟩) m c, .bool false, .int .i64 0, .int .i64 0]) ∧ EV w0 w' L' K b E n ∧ See w' L' ⟨tuD pa num fr xs, some ⟨q, 0, none⟩, c⟩ ∧ Tn w w' L L' (fun _ => False) := by
  have h1 := hb pa (by simp)
  have h2 := hb num (by simp)
  have h3 := hb fr (by simp)
  refine (turnsP_any pa num fr s w).mono ?_
  rintro e w' ⟨q, c, rfl, hq, hq2, hc, hr, hbl⟩
  have hbt := sb_byte s
  rw [hs] at hr hc hbt ⊢
  subst hm
  refine ⟨q, c, _, rfl, h.later hbl, ⟨⟨hr, by show xs.length ≤ _; omega, hc, fun e => (by cases e), hbt, (by show (-9223372036854775808 : Int) ≤ 3 ∧ (3 : Int) ≤ 9223372036854775807; decide), by show _ ≤ pa ∧ pa ≤ _; omega, by show _ ≤ num ∧ num ≤ _; omega, (by show (-9223372036854775808 : Int) ≤ 0 ∧ (0 : Int) ≤ 9223372036854775807; decide), by show _ ≤ fr ∧ fr ≤ _; omega, (by show (-9223372036854775808 : Int) ≤ 0 ∧ (0 : Int) ≤ 9223372036854775807; decide), (by show (-9223372036854775808 : Int) ≤ 0 ∧ (0 : Int) ≤ 9223372036854775807; decide)⟩, fun a e => ?_⟩, Tn.of_below hbl L 0 _⟩
  injection e with e
  subst e
  exact ⟨hq2, relab_new hq⟩
set_option maxHeartbeats 8000000 in
theorem endTurns_2 (W : World) : Calls Tryz.prog 13 #[.bool false] W fun e W' => e = .returned (.bool true) ∧ Below W.heap.size W W' := by
  obtain ⟨r1, r2, r3, r4, r5, r6, r7, r8, r9, r10⟩ := tu2
  have kc := fun (w : World) (C : Array Value) (n c : Nat) => Lib.run_convert_bytes_const (P := Tryz.prog) w 29 5 C n c Tryz.underlying29 Tryz.underlying5
  go_enter Tryz.func13, Tryz.ntmps13
  go_wp2_with fail
  refine (plain_any _).mono ?_
  rintro e w1 ⟨rfl, hb1⟩
  obtain ⟨b1, hb1q⟩ : ∃ b, w1.heap.size = b := ⟨_, rfl⟩
  have hle : W.heap.size ≤ b1 := by rw [← hb1q]; exact hb1.size
  have hB2 : Below W.heap.size W (w1.alloc (.cells #[.int .i64 0, .int .i64 0, .int .i64 0, .int .i64 0, .int .i64 0, .int .i64 0, .int .i64 0] 26)) := hb1.alloc hb1.size _
  have hrow : (w1.alloc (.cells #[.int .i64 0, .int .i64 0, .int .i64 0, .int .i64 0, .int .i64 0, .int .i64 0, .int .i64 0] 26)).rowIs b1 tCf 7 (cfF ⟨0, 0, 0, 0, 0, 0, 0⟩) := by
    rw [← hb1q]
    exact World.rowIs_alloc w1 _ _ _ (fun i hi => by
      match i, hi with
      | 0, _ | 1, _ | 2, _ | 3, _ | 4, _ | 5, _ | 6, _ => rfl)
  obtain ⟨w2, hw2⟩ : ∃ w2, w1.alloc (.cells #[.int .i64 0, .int .i64 0, .int .i64 0, .int .i64 0, .int .i64 0, .int .i64 0, .int .i64 0] 26) = w2 := ⟨_, rfl⟩
  rw [hw2] at hB2 hrow
  have hrow3 := st7_row hrow ⟨2, 60, 50, 10, 4, 3, 1⟩
  have hB3 := hB2.grown (st7_grown w2 b1 ⟨2, 60, 50, 10, 4, 3, 1⟩) hB2.size (by intro g e; simp at e; omega)
  have f0 : ∀ i, w2.frozen? ⟨b1, i, none⟩ = false := World.rowIs.frozen hrow
  have x0 : w2.cell? ⟨b1, 0, none⟩ = some (.int .i64 0) := World.rowIs.cell (i := 0) hrow (by omega)
  have x1 : w2.cell? ⟨b1, 1, none⟩ = some (.int .i64 0) := World.rowIs.cell (i := 1) hrow (by omega)
  have x2 : w2.cell? ⟨b1, 2, none⟩ = some (.int .i64 0) := World.rowIs.cell (i := 2) hrow (by omega)
  have x3 : w2.cell? ⟨b1, 3, none⟩ = some (.int .i64 0) := World.rowIs.cell (i := 3) hrow (by omega)
  have x4 : w2.cell? ⟨b1, 4, none⟩ = some (.int .i64 0) := World.rowIs.cell (i := 4) hrow (by omega)
  have x5 : w2.cell? ⟨b1, 5, none⟩ = some (.int .i64 0) := World.rowIs.cell (i := 5) hrow (by omega)
  have x6 : w2.cell? ⟨b1, 6, none⟩ = some (.int .i64 0) := World.rowIs.cell (i := 6) hrow (by omega)
  clear hb1 hrow hB2
  go_upto_region 2 with (fail)
  change Code.wp _ _ _ _ (st7 w2 b1 ⟨2, 60, 50, 10, 4, 3, 1⟩)
  obtain ⟨wk, hwk⟩ : ∃ wk, st7 w2 b1 ⟨2, 60, 50, 10, 4, 3, 1⟩ = wk := ⟨_, rfl⟩
  rw [hwk] at hrow3 hB3 ⊢
  clear x0 x1 x2 x3 x4 x5 x6 f0 hwk hw2 w2 hb1q
  have f0 : ∀ i, wk.frozen? ⟨b1, i, none⟩ = false := World.rowIs.frozen hrow3
  have x6 : wk.cell? ⟨b1, 6, none⟩ = some (.int .i64 1) := World.rowIs.cell (i := 6) hrow3 (by omega)
  have HM := Lib.hid (And.intro hrow3 (And.intro hB3 hle))
  clear hrow3 hB3 hle
  go_upto_region 5 with (fail)
  obtain ⟨hrow3, hB3, hle⟩ := HM.out
  have hrow4 := World.rowIs.congr (g := cfF ⟨2, 60, 50, 10, 4, 3, 2⟩) (World.rowIs.set hrow3 6 (.int .i64 2)) (fun i hi => by
    match i, hi with
    | 0, _ | 1, _ | 2, _ | 3, _ | 4, _ | 5, _ | 6, _ => rfl)
  have hB4 := (hB3.grown (setCell_one _ b1 6 (.int .i64 2)) hB3.size (by intro g e; simp at e; omega))
  change Code.wp _ _ _ _ (wk.setCell ⟨b1, 6, none⟩ (.int .i64 2))
  obtain ⟨w3, hw3⟩ : ∃ w3, wk.setCell ⟨b1, 6, none⟩ (.int .i64 2) = w3 := ⟨_, rfl⟩
  rw [hw3] at hrow4 hB4 ⊢
  have y0 : w3.cell? ⟨b1, 0, none⟩ = some (.int .i64 2) := World.rowIs.cell (i := 0) hrow4 (by omega)
  have y1 : w3.cell? ⟨b1, 1, none⟩ = some (.int .i64 60) := World.rowIs.cell (i := 1) hrow4 (by omega)
  have y2 : w3.cell? ⟨b1, 2, none⟩ = some (.int .i64 50) := World.rowIs.cell (i := 2) hrow4 (by omega)
  have y3 : w3.cell? ⟨b1, 3, none⟩ = some (.int .i64 10) := World.rowIs.cell (i := 3) hrow4 (by omega)
  have y4 : w3.cell? ⟨b1, 4, none⟩ = some (.int .i64 4) := World.rowIs.cell (i := 4) hrow4 (by omega)
  have y5 : w3.cell? ⟨b1, 5, none⟩ = some (.int .i64 3) := World.rowIs.cell (i := 5) hrow4 (by omega)
  have y6 : w3.cell? ⟨b1, 6, none⟩ = some (.int .i64 2) := World.rowIs.cell (i := 6) hrow4 (by omega)
  have HB4 := Lib.hid hB4
  clear x6 f0 hrow3 hB3 hle hrow4 hB4 hw3 HM
  have HUP := Lib.hid (show Calls Tryz.prog 16 #[.agg #[.int .i64 2, .int .i64 60, .int .i64 50, .int .i64 10, .int .i64 4, .int .i64 3, .int .i64 2]] w3 _ from up_any (w0 := W) 2 60 50 10 4 3 2 w3 (fun _ => 0) 1 (by omega) HB4.out rfl (fun k _ => by unfold Es; omega) r1 r2 r3 r4)
  clear r1 r2 r3 r4
  go_wp2_with fail
  refine HUP.out.mono ?_
  rintro e w4 ⟨b, L4, rfl, hx, -⟩
  have HX := Lib.hid (show EV W w4 L4 1 b (upE (tuC 2)) 2 from hx)
  clear hx HUP HB4 y0 y1 y2 y3 y4 y5 y6
  go_wp2_with fail
  refine (HX.out.up (by omega) 1 r5).mono ?_
  rintro e w5 ⟨rfl, L5, hx, -⟩
  have HY := Lib.hid hx
  clear hx HX r5
  have HS := Lib.hid (show Calls Tryz.prog 19 #[.pointer (some ⟨b, 0, none⟩), .slice (some ⟨w5.heap.size, 0, none⟩) 1 1] (w5.alloc (.cells #[.int .i64 1, .int .i64 1, .int .i64 0, .int .i64 0, .int .i64 0, .slice none 0 0, .bool false, .int .i64 0, .int .i64 0] 32)) _ from HY.out.saidLit (by omega) [⟨tuJ, none, 0⟩] (fun m hm => by simp at hm; subst hm; exact pktAt_plain w5 1 1 0 0 0 0 0 (by decide)) (fun m hm a e => by simp at hm; subst hm; cases e) rfl rfl rfl (by rw [r6]; unfold maxLen; decide) (r := true) (by rw [r6]; rfl))
  go_wp2_with fail
  refine HS.out.mono ?_
  rintro e w6 ⟨rfl, L6, hx, -⟩
  have HX := Lib.hid hx
  clear hx HY HS r6
  have HCM := Lib.hid (show Calls Tryz.prog 22 #[.pointer (some ⟨b, 0, none⟩), .agg #[.int .i64 2, .int .i64 1, .int .i64 0, .int .i64 0, .int .i64 0, .slice none 0 0, .bool false, .int .i64 0, .int .i64 0]] w6 _ from HX.out.come (by omega) tuK none 0 (pktAt_plain w6 2 1 0 0 0 0 0 (by decide)) (fun a e => by cases e) (pkB_plain 2 1 0 0 0 0 0 (by decide)) r7)
  go_wp2_with fail
  refine HCM.out.mono ?_
  rintro e w7 ⟨rfl, L7, hx, -⟩
  have HY := Lib.hid hx
  clear hx HX HCM r7
  go_wp2_with fail
  refine (HY.out.saidNil (by omega) (r := true) (by rw [r8]; unfold maxLen; decide) (by rw [r8]; rfl)).mono ?_
  rintro e w8 ⟨rfl, L8, hx, -⟩
  have HX := Lib.hid (show EV W w8 L8 1 b (tuE 2) 4 from hx)
  clear hx HY r8
  go_wp2_with fail
  refine (HX.out.writeLit (by omega) (m := 25) (ys := tuX) rfl rfl rfl (by omega) (by decide) r9).mono ?_
  rintro e w9 ⟨rfl, L9, hx, -⟩
  have HY := Lib.hid hx
  clear hx HX r9 kc
  go_wp2_with fail
  refine (turnsQ HY.out 0 1 0 _ [48, 49, 50, 51, 52, 53, 54, 55, 56, 57] 10 (by kernel_rfl) rfl (by decide) (by omega)).mono ?_
  rintro e w10 ⟨q0, c0, L10, rfl, hx, hs, ht⟩
  have HX := Lib.hid hx
  have S0 := Lib.hid hs
  clear hx hs ht HY
  go_wp2_with fail
  refine (turnsQ HX.out 1 1 10 _ [97, 98, 99, 100, 101, 102, 103, 104, 105, 106] 10 (by kernel_rfl) rfl (by decide) (by omega)).mono ?_
  rintro e w11 ⟨q1, c1, L11, rfl, hx, hs, ht⟩
  have HY := Lib.hid hx
  have S0 := Lib.hid (S0.out.keep ht id)
  have S1 := Lib.hid hs
  clear hx hs ht HX
  go_wp2_with fail
  refine (turnsQ HY.out 0 2 20 _ [65, 66, 67, 68, 69] 5 (by kernel_rfl) rfl (by decide) (by omega)).mono ?_
  rintro e w12 ⟨q2, c2, L12, rfl, hx, hs, ht⟩
  have HX := Lib.hid hx
  have S0 := Lib.hid (S0.out.keep ht id)
  have S1 := Lib.hid (S1.out.keep ht id)
  have S2 := Lib.hid hs
  clear hx hs ht HY
  have hall : ∀ m ∈ ([⟨tuD 0 1 0 [48, 49, 50, 51, 52, 53, 54, 55, 56, 57], some ⟨q0, 0, none⟩, c0⟩, ⟨tuD 1 1 10 [97, 98, 99, 100, 101, 102, 103, 104, 105, 106], some ⟨q1, 0, none⟩, c1⟩, ⟨tuD 0 2 20 [65, 66, 67, 68, 69], some ⟨q2, 0, none⟩, c2⟩] : List PkM), See w12 L12 m := fun m hm => by
    simp only [List.mem_cons, List.not_mem_nil, or_false] at hm
    rcases hm with rfl | rfl | rfl
    · exact S0.out
    · exact S1.out
    · exact S2.out
  have HS := Lib.hid (show Calls Tryz.prog 19 #[.pointer (some ⟨b, 0, none⟩), .slice (some ⟨w12.heap.size, 0, none⟩) 3 3] (w12.alloc (.cells #[.int .i64 3, .int .i64 0, .int .i64 1, .int .i64 0, .int .i64 0, .slice (some ⟨q0, 0, none⟩) 10 c0, .bool false, .int .i64 0, .int .i64 0, .int .i64 3, .int .i64 1, .int .i64 1, .int .i64 0, .int .i64 10, .slice (some ⟨q1, 0, none⟩) 10 c1, .bool false, .int .i64 0, .int .i64 0, .int .i64 3, .int .i64 0, .int .i64 2, .int .i64 0, .int .i64 20, .slice (some ⟨q2, 0, none⟩) 5 c2, .bool false, .int .i64 0, .int .i64 0] 32)) _ from HX.out.saidLit (by omega) [⟨tuD 0 1 0 [48, 49, 50, 51, 52, 53, 54, 55, 56, 57], some ⟨q0, 0, none⟩, c0⟩, ⟨tuD 1 1 10 [97, 98, 99, 100, 101, 102, 103, 104, 105, 106], some ⟨q1, 0, none⟩, c1⟩, ⟨tuD 0 2 20 [65, 66, 67, 68, 69], some ⟨q2, 0, none⟩, c2⟩] (fun m hm => (hall m hm).1) (fun m hm => (hall m hm).2) rfl rfl rfl (by rw [r10]; unfold maxLen; decide) (r := true) (by rw [r10]; exact decide_eq_true rfl))
  clear hall r10 S0 S1 S2
  go_wp2_with fail
  refine HS.out.mono ?_
  rintro e w13 ⟨rfl, L13, hx, -⟩
  have HF := Lib.hid hx.bel
  clear hx HS HX
  go_wp2_with fail
  refine (wakes19_any _).mono ?_
  rintro e wz ⟨rfl, hb⟩
  have HFIN := Lib.hid (HF.out.trans (hb.mono HF.out.size))
  clear hb HF
  go_wp2
  go_ret
  exact ⟨rfl, HFIN.out⟩
set_option maxHeartbeats 8000000 in
theorem endTurns_3 (W : World) : Calls Tryz.prog 13 #[.bool true] W fun e W' => e = .returned (.bool true) ∧ Below W.heap.size W W' := by
  obtain ⟨r1, r2, r3, r4, r5, r6, r7, r8, r9, r10⟩ := tu3
  have kc := fun (w : World) (C : Array Value) (n c : Nat) => Lib.run_convert_bytes_const (P := Tryz.prog) w 29 5 C n c Tryz.underlying29 Tryz.underlying5
  go_enter Tryz.func13, Tryz.ntmps13
  go_wp2_with fail
  refine (plain_any _).mono ?_
  rintro e w1 ⟨rfl, hb1⟩
  obtain ⟨b1, hb1q⟩ : ∃ b, w1.heap.size = b := ⟨_, rfl⟩
  have hle : W.heap.size ≤ b1 := by rw [← hb1q]; exact hb1.size
  have hB2 : Below W.heap.size W (w1.alloc (.cells #[.int .i64 0, .int .i64 0, .int .i64 0, .int .i64 0, .int .i64 0, .int .i64 0, .int .i64 0] 26)) := hb1.alloc hb1.size _
  have hrow : (w1.alloc (.cells #[.int .i64 0, .int .i64 0, .int .i64 0, .int .i64 0, .int .i64 0, .int .i64 0, .int .i64 0] 26)).rowIs b1 tCf 7 (cfF ⟨0, 0, 0, 0, 0, 0, 0⟩) := by
    rw [← hb1q]
    exact World.rowIs_alloc w1 _ _ _ (fun i hi => by
      match i, hi with
      | 0, _ | 1, _ | 2, _ | 3, _ | 4, _ | 5, _ | 6, _ => rfl)
  obtain ⟨w2, hw2⟩ : ∃ w2, w1.alloc (.cells #[.int .i64 0, .int .i64 0, .int .i64 0, .int .i64 0, .int .i64 0, .int .i64 0, .int .i64 0] 26) = w2 := ⟨_, rfl⟩
  rw [hw2] at hB2 hrow
  have hrow3 := st7_row hrow ⟨2, 60, 50, 10, 4, 3, 1⟩
  have hB3 := hB2.grown (st7_grown w2 b1 ⟨2, 60, 50, 10, 4, 3, 1⟩) hB2.size (by intro g e; simp at e; omega)
  have f0 : ∀ i, w2.frozen? ⟨b1, i, none⟩ = false := World.rowIs.frozen hrow
  have x0 : w2.cell? ⟨b1, 0, none⟩ = some (.int .i64 0) := World.rowIs.cell (i := 0) hrow (by omega)
  have x1 : w2.cell? ⟨b1, 1, none⟩ = some (.int .i64 0) := World.rowIs.cell (i := 1) hrow (by omega)
  have x2 : w2.cell? ⟨b1, 2, none⟩ = some (.int .i64 0) := World.rowIs.cell (i := 2) hrow (by omega)
  have x3 : w2.cell? ⟨b1, 3, none⟩ = some (.int .i64 0) := World.rowIs.cell (i := 3) hrow (by omega)
  have x4 : w2.cell? ⟨b1, 4, none⟩ = some (.int .i64 0) := World.rowIs.cell (i := 4) hrow (by omega)
  have x5 : w2.cell? ⟨b1, 5, none⟩ = some (.int .i64 0) := World.rowIs.cell (i := 5) hrow (by omega)
  have x6 : w2.cell? ⟨b1, 6, none⟩ = some (.int .i64 0) := World.rowIs.cell (i := 6) hrow (by omega)
  clear hb1 hrow hB2
  go_upto_region 2 with (fail)
  change Code.wp _ _ _ _ (st7 w2 b1 ⟨2, 60, 50, 10, 4, 3, 1⟩)
  obtain ⟨wk, hwk⟩ : ∃ wk, st7 w2 b1 ⟨2, 60, 50, 10, 4, 3, 1⟩ = wk := ⟨_, rfl⟩
  rw [hwk] at hrow3 hB3 ⊢
  clear x0 x1 x2 x3 x4 x5 x6 f0 hwk hw2 w2 hb1q
  have f0 : ∀ i, wk.frozen? ⟨b1, i, none⟩ = false := World.rowIs.frozen hrow3
  have x6 : wk.cell? ⟨b1, 6, none⟩ = some (.int .i64 1) := World.rowIs.cell (i := 6) hrow3 (by omega)
  have HM := Lib.hid (And.intro hrow3 (And.intro hB3 hle))
  clear hrow3 hB3 hle
  go_upto_region 5 with (fail)
  obtain ⟨hrow3, hB3, hle⟩ := HM.out
  have hB3 := hB3.grown (setCell_one _ b1 6 (.int .i64 2)) hB3.size (by intro g e; simp at e; omega)
  have hrow3 := World.rowIs.set hrow3 6 (.int .i64 2)
  have hrow4 := World.rowIs.congr (g := cfF ⟨2, 60, 50, 10, 4, 3, 3⟩) (World.rowIs.set hrow3 6 (.int .i64 3)) (fun i hi => by
    match i, hi with
    | 0, _ | 1, _ | 2, _ | 3, _ | 4, _ | 5, _ | 6, _ => rfl)
  have hB4 := (hB3.grown (setCell_one _ b1 6 (.int .i64 3)) hB3.size (by intro g e; simp at e; omega))
  change Code.wp _ _ _ _ ((wk.setCell ⟨b1, 6, none⟩ (.int .i64 2)).setCell ⟨b1, 6, none⟩ (.int .i64 3))
  obtain ⟨w3, hw3⟩ : ∃ w3, (wk.setCell ⟨b1, 6, none⟩ (.int .i64 2)).setCell ⟨b1, 6, none⟩ (.int .i64 3) = w3 := ⟨_, rfl⟩
  rw [hw3] at hrow4 hB4 ⊢
  have y0 : w3.cell? ⟨b1, 0, none⟩ = some (.int .i64 2) := World.rowIs.cell (i := 0) hrow4 (by omega)
  have y1 : w3.cell? ⟨b1, 1, none⟩ = some (.int .i64 60) := World.rowIs.cell (i := 1) hrow4 (by omega)
  have y2 : w3.cell? ⟨b1, 2, none⟩ = some (.int .i64 50) := World.rowIs.cell (i := 2) hrow4 (by omega)
  have y3 : w3.cell? ⟨b1, 3, none⟩ = some (.int .i64 10) := World.rowIs.cell (i := 3) hrow4 (by omega)
  have y4 : w3.cell? ⟨b1, 4, none⟩ = some (.int .i64 4) := World.rowIs.cell (i := 4) hrow4 (by omega)
  have y5 : w3.cell? ⟨b1, 5, none⟩ = some (.int .i64 3) := World.rowIs.cell (i := 5) hrow4 (by omega)
  have y6 : w3.cell? ⟨b1, 6, none⟩ = some (.int .i64 3) := World.rowIs.cell (i := 6) hrow4 (by omega)
  have HB4 := Lib.hid hB4
  clear x6 f0 hrow3 hB3 hle hrow4 hB4 hw3 HM
  have HUP := Lib.hid (show Calls Tryz.prog 16 #[.agg #[.int .i64 2, .int .i64 60, .int .i64 50, .int .i64 10, .int .i64 4, .int .i64 3, .int .i64 3]] w3 _ from up_any (w0 := W) 2 60 50 10 4 3 3 w3 (fun _ => 0) 1 (by omega) HB4.out rfl (fun k _ => by unfold Es; omega) r1 r2 r3 r4)
  clear r1 r2 r3 r4
  go_wp2_with fail
  refine HUP.out.mono ?_
  rintro e w4 ⟨b, L4, rfl, hx, -⟩
  have HX := Lib.hid (show EV W w4 L4 1 b (upE (tuC 3)) 2 from hx)
  clear hx HUP HB4 y0 y1 y2 y3 y4 y5 y6
  go_wp2_with fail
  refine (HX.out.up (by omega) 1 r5).mono ?_
  rintro e w5 ⟨rfl, L5, hx, -⟩
  have HY := Lib.hid hx
  clear hx HX r5
  have HS := Lib.hid (show Calls Tryz.prog 19 #[.pointer (some ⟨b, 0, none⟩), .slice (some ⟨w5.heap.size, 0, none⟩) 1 1] (w5.alloc (.cells #[.int .i64 1, .int .i64 1, .int .i64 0, .int .i64 0, .int .i64 0, .slice none 0 0, .bool false, .int .i64 0, .int .i64 0] 32)) _ from HY.out.saidLit (by omega) [⟨tuJ, none, 0⟩] (fun m hm => by simp at hm; subst hm; exact pktAt_plain w5 1 1 0 0 0 0 0 (by decide)) (fun m hm a e => by simp at hm; subst hm; cases e) rfl rfl rfl (by rw [r6]; unfold maxLen; decide) (r := true) (by rw [r6]; rfl))
  go_wp2_with fail
  refine HS.out.mono ?_
  rintro e w6 ⟨rfl, L6, hx, -⟩
  have HX := Lib.hid hx
  clear hx HY HS r6
  have HCM := Lib.hid (show Calls Tryz.prog 22 #[.pointer (some ⟨b, 0, none⟩), .agg #[.int .i64 2, .int .i64 1, .int .i64 0, .int .i64 0, .int .i64 0, .slice none 0 0, .bool false, .int .i64 0, .int .i64 0]] w6 _ from HX.out.come (by omega) tuK none 0 (pktAt_plain w6 2 1 0 0 0 0 0 (by decide)) (fun a e => by cases e) (pkB_plain 2 1 0 0 0 0 0 (by decide)) r7)
  go_wp2_with fail
  refine HCM.out.mono ?_
  rintro e w7 ⟨rfl, L7, hx, -⟩
  have HY := Lib.hid hx
  clear hx HX HCM r7
  go_wp2_with fail
  refine (HY.out.saidNil (by omega) (r := true) (by rw [r8]; unfold maxLen; decide) (by rw [r8]; rfl)).mono ?_
  rintro e w8 ⟨rfl, L8, hx, -⟩
  have HX := Lib.hid (show EV W w8 L8 1 b (tuE 3) 4 from hx)
  clear hx HY r8
  go_wp2_with fail
  refine (HX.out.writeLit (by omega) (m := 25) (ys := tuX) rfl rfl rfl (by omega) (by decide) r9).mono ?_
  rintro e w9 ⟨rfl, L9, hx, -⟩
  have HY := Lib.hid hx
  clear hx HX r9 kc
  go_wp2_with fail
  refine (turnsQ HY.out 0 1 0 _ [48, 49, 50, 51, 52, 53, 54, 55, 56, 57] 10 (by kernel_rfl) rfl (by decide) (by omega)).mono ?_
  rintro e w10 ⟨q0, c0, L10, rfl, hx, hs, ht⟩
  have HX := Lib.hid hx
  have S0 := Lib.hid hs
  clear hx hs ht HY
  go_wp2_with fail
  refine (turnsQ HX.out 1 1 0 _ [48, 49, 50, 51, 52, 53, 54, 55, 56, 57] 10 (by kernel_rfl) rfl (by decide) (by omega)).mono ?_
  rintro e w11 ⟨q1, c1, L11, rfl, hx, hs, ht⟩
  have HY := Lib.hid hx
  have S0 := Lib.hid (S0.out.keep ht id)
  have S1 := Lib.hid hs
  clear hx hs ht HX
  go_wp2_with fail
  refine (turnsQ HY.out 0 2 10 _ [97, 98, 99, 100, 101, 102, 103, 104, 105, 106] 10 (by kernel_rfl) rfl (by decide) (by omega)).mono ?_
  rintro e w12 ⟨q2, c2, L12, rfl, hx, hs, ht⟩
  have HX := Lib.hid hx
  have S0 := Lib.hid (S0.out.keep ht id)
  have S1 := Lib.hid (S1.out.keep ht id)
  have S2 := Lib.hid hs
  clear hx hs ht HY
  go_wp2_with fail
  refine (turnsQ HX.out 1 2 10 _ [97, 98, 99, 100, 101, 102, 103, 104, 105, 106] 10 (by kernel_rfl) rfl (by decide) (by omega)).mono ?_
  rintro e w13 ⟨q3, c3, L13, rfl, hx, hs, ht⟩
  have HY := Lib.hid hx
  have S0 := Lib.hid (S0.out.keep ht id)
  have S1 := Lib.hid (S1.out.keep ht id)
  have S2 := Lib.hid (S2.out.keep ht id)
  have S3 := Lib.hid hs
  clear hx hs ht HX
  have hall : ∀ m ∈ ([⟨tuD 0 1 0 [48, 49, 50, 51, 52, 53, 54, 55, 56, 57], some ⟨q0, 0, none⟩, c0⟩, ⟨tuD 1 1 0 [48, 49, 50, 51, 52, 53, 54, 55, 56, 57], some ⟨q1, 0, none⟩, c1⟩, ⟨tuD 0 2 10 [97, 98, 99, 100, 101, 102, 103, 104, 105, 106], some ⟨q2, 0, none⟩, c2⟩, ⟨tuD 1 2 10 [97, 98, 99, 100, 101, 102, 103, 104, 105, 106], some ⟨q3, 0, none⟩, c3⟩] : List PkM), See w13 L13 m := fun m hm => by
    simp only [List.mem_cons, List.not_mem_nil, or_false] at hm
    rcases hm with rfl | rfl | rfl | rfl
    · exact S0.out
    · exact S1.out
    · exact S2.out
    · exact S3.out
  have HS := Lib.hid (show Calls Tryz.prog 19 #[.pointer (some ⟨b, 0, none⟩), .slice (some ⟨w13.heap.size, 0, none⟩) 4 4] (w13.alloc (.cells #[.int .i64 3, .int .i64 0, .int .i64 1, .int .i64 0, .int .i64 0, .slice (some ⟨q0, 0, none⟩) 10 c0, .bool false, .int .i64 0, .int .i64 0, .int .i64 3, .int .i64 1, .int .i64 1, .int .i64 0, .int .i64 0, .slice (some ⟨q1, 0, none⟩) 10 c1, .bool false, .int .i64 0, .int .i64 0, .int .i64 3, .int .i64 0, .int .i64 2, .int .i64 0, .int .i64 10, .slice (some ⟨q2, 0, none⟩) 10 c2, .bool false, .int .i64 0, .int .i64 0, .int .i64 3, .int .i64 1, .int .i64 2, .int .i64 0, .int .i64 10, .slice (some ⟨q3, 0, none⟩) 10 c3, .bool false, .int .i64 0, .int .i64 0] 32)) _ from HY.out.saidLit (by omega) [⟨tuD 0 1 0 [48, 49, 50, 51, 52, 53, 54, 55, 56, 57], some ⟨q0, 0, none⟩, c0⟩, ⟨tuD 1 1 0 [48, 49, 50, 51, 52, 53, 54, 55, 56, 57], some ⟨q1, 0, none⟩, c1⟩, ⟨tuD 0 2 10 [97, 98, 99, 100, 101, 102, 103, 104, 105, 106], some ⟨q2, 0, none⟩, c2⟩, ⟨tuD 1 2 10 [97, 98, 99, 100, 101, 102, 103, 104, 105, 106], some ⟨q3, 0, none⟩, c3⟩] (fun m hm => (hall m hm).1) (fun m hm => (hall m hm).2) rfl rfl rfl (by rw [r10]; unfold maxLen; decide) (r := true) (by rw [r10]; exact decide_eq_true rfl))
  clear hall r10 S0 S1 S2 S3
  go_wp2_with fail
  refine HS.out.mono ?_
  rintro e w14 ⟨rfl, L14, hx, -⟩
  have HF := Lib.hid hx.bel
  clear hx HS HY
  go_wp2_with fail
  refine (wakes19_any _).mono ?_
  rintro e wz ⟨rfl, hb⟩
  have HFIN := Lib.hid (HF.out.trans (hb.mono HF.out.size))
  clear hb HF
  go_wp2
  go_ret
  exact ⟨rfl, HFIN.out⟩
theorem endTurns_walk (all : Bool) (W : World) : Calls Tryz.prog 13 #[.bool all] W fun e W' => e = .returned (.bool true) ∧ Below W.heap.size W W' := by
  cases all
  · exact endTurns_2 W
  · exact endTurns_3 W
end Go.Proofs.YtpjlnpnadkbakaaGreat
