/-
  The walk of EndStays.
-/
import Derived.Test.YtpjlnpnadkbakaaGreatQBXSt
import Derived.Test.YtpjlnpnadkbakaaGreatQBPrEvK
import Derived.Test.YtpjlnpnadkbakaaGreatQBZPrState
import Derived.Deep.CutBlock
import Derived.Deep.DeepCutAuto
import Derived.Lib.SlBytesConst
namespace Go.Proofs.YtpjlnpnadkbakaaGreat
set_option maxRecDepth 10000
open Go.RowKit
def esO : List Int := List.replicate 100 0
theorem esMk (w : World) : (Instr.makeSlice 29 (.int .i64 100) (.int .i64 100)).run Tryz.prog w = .ok (.slice (some ⟨w.heap.size, 0, none⟩) 100 100) (w.alloc (.cells (bts esO) 5)) := by
  have := run_make_row' (P := Tryz.prog) 29 5 (.int .u8 0) 1 Tryz.underlying29 info_byte rfl .i64 .i64 100 (by omega) (by omega) w
  rw [madeByte] at this
  rw [show (100 : Int) = ((100 : Nat) : Int) from rfl, this]
  simp only [bts, esO, List.map_replicate]
noncomputable def es1 : En := (En.new plC 0).write esO
noncomputable def es2 : En := es1.tick 5
noncomputable def es3 : En := es2.up 0
noncomputable def es4 : En := es3.close
noncomputable def es5 : En := es4.taken
noncomputable def es6 : En := es5.write [1]
noncomputable def es7 (z : Nat) : En := es6.read (z : Int)
noncomputable def esC (z : Nat) : Nat → En
  | 0 => es7 z
  | k + 1 => (esC z k).count 4 1
theorem esC_may (z : Nat) : ∀ (k : Nat) (p : Pkt), (esC z k).mayC p = (es7 z).mayC p
  | 0, _ => rfl
  | k + 1, p => esC_may z k p
def esM (a1 : Int) (g1 : Nat) : List PkM := [⟨⟨0, 0, 0, 0, 0, [], false, 0, 0⟩, none, 0⟩, ⟨⟨1, 0, 0, 0, 0, [], false, 0, 0⟩, none, 0⟩, ⟨⟨2, 1, 0, 0, 0, [], false, 0, 0⟩, none, 0⟩, ⟨⟨2, 0, 0, a1, 0, [], false, 0, 0⟩, none, 0⟩, ⟨⟨3, 0, 0, 0, 0, [1], false, 0, 0⟩, some ⟨g1, 0, none⟩, 1⟩, ⟨⟨4, 0, 0, a1, 0, [], false, 0, 0⟩, none, 0⟩, ⟨⟨4, 0, 0, 0, 0, [], false, a1, 0⟩, none, 0⟩, ⟨⟨2, 2, 0, 0, 0, [], false, 0, 0⟩, none, 0⟩, ⟨⟨2, 0, 0, 0, 0, [], false, 1, 0⟩, none, 0⟩]
theorem esF : (En.new plC 0).takes esO = 60 ∧ (es1).mayT 5 = true ∧ (es2).mayU 0 = true ∧ (!(es3).o.cl) = true ∧ (es4).out.length = 1 ∧ (es5).ev.length = 5 ∧ (es5).state.length = 29 ∧ (es5).takes [1] = 0 := by
  refine ⟨?_, ?_, ?_, ?_, ?_, ?_, ?_, ?_⟩ <;> kernel_rfl
noncomputable def esZB (z : Nat) : Bool := (decide ((es6).readN (z : Int) = [])) && ((es7 z).o.cl) && (!(es7 z).mayT 5) && (!(es7 z).mayT (4 - (z : Int))) && (!(es7 z).mayT (1048577 + (z : Int))) && (!(es7 z).mayU 0) && (!(es7 z).mayU (2 + (z : Int))) && (!(es7 z).mayU (-1 - (z : Int))) && (!(es7 z).mayD 1) && (!(es7 z).mayD (2 + (z : Int))) && (!(es7 z).mayC ⟨0, 0, 0, 0, 0, [], false, 0, 0⟩) && (!(es7 z).mayC ⟨1, 0, 0, 0, 0, [], false, 0, 0⟩) && (!(es7 z).mayC ⟨2, 1, 0, 0, 0, [], false, 0, 0⟩) && (!(es7 z).mayC ⟨2, 0, 0, (1 + (z : Int)), 0, [], false, 0, 0⟩) && (!(es7 z).mayC ⟨3, 0, 0, 0, 0, [1], false, 0, 0⟩) && (!(es7 z).mayC ⟨4, 0, 0, (1 + (z : Int)), 0, [], false, 0, 0⟩) && (!(es7 z).mayC ⟨4, 0, 0, 0, 0, [], false, (1 + (z : Int)), 0⟩) && (!(es7 z).mayC ⟨2, 2, 0, 0, 0, [], false, 0, 0⟩) && (!(es7 z).mayC ⟨2, 0, 0, 0, 0, [], false, 1, 0⟩) && (decide ((esC z 9).ev.length = 5)) && (decide ((esC z 9).state = es5.state)) && (decide ((esC z 9).out.length = 0)) && (decide ((esC z 9).taken.now = 5))
theorem esZA : (List.range 50).all (fun z => esZB z) = true := by kernel_rfl
theorem esZ (z : Nat) (h1 : z < 50) : (es6).readN (z : Int) = [] ∧ (es7 z).o.cl = true ∧ (es7 z).mayT 5 = false ∧ (es7 z).mayT (4 - (z : Int)) = false ∧ (es7 z).mayT (1048577 + (z : Int)) = false ∧ (es7 z).mayU 0 = false ∧ (es7 z).mayU (2 + (z : Int)) = false ∧ (es7 z).mayU (-1 - (z : Int)) = false ∧ (es7 z).mayD 1 = false ∧ (es7 z).mayD (2 + (z : Int)) = false ∧ (es7 z).mayC ⟨0, 0, 0, 0, 0, [], false, 0, 0⟩ = false ∧ (es7 z).mayC ⟨1, 0, 0, 0, 0, [], false, 0, 0⟩ = false ∧ (es7 z).mayC ⟨2, 1, 0, 0, 0, [], false, 0, 0⟩ = false ∧ (es7 z).mayC ⟨2, 0, 0, (1 + (z : Int)), 0, [], false, 0, 0⟩ = false ∧ (es7 z).mayC ⟨3, 0, 0, 0, 0, [1], false, 0, 0⟩ = false ∧ (es7 z).mayC ⟨4, 0, 0, (1 + (z : Int)), 0, [], false, 0, 0⟩ = false ∧ (es7 z).mayC ⟨4, 0, 0, 0, 0, [], false, (1 + (z : Int)), 0⟩ = false ∧ (es7 z).mayC ⟨2, 2, 0, 0, 0, [], false, 0, 0⟩ = false ∧ (es7 z).mayC ⟨2, 0, 0, 0, 0, [], false, 1, 0⟩ = false ∧ (esC z 9).ev.length = 5 ∧ (esC z 9).state = es5.state ∧ (esC z 9).out.length = 0 ∧ (esC z 9).taken.now = 5 := by
  have h := List.all_eq_true.1 esZA z (List.mem_range.2 h1)
  simp only [esZB, Bool.and_eq_true, decide_eq_true_eq, Bool.not_eq_true'] at h
  obtain ⟨⟨⟨⟨⟨⟨⟨⟨⟨⟨⟨⟨⟨⟨⟨⟨⟨⟨⟨⟨⟨⟨h0, h1⟩, h2⟩, h3⟩, h4⟩, h5⟩, h6⟩, h7⟩, h8⟩, h9⟩, h10⟩, h11⟩, h12⟩, h13⟩, h14⟩, h15⟩, h16⟩, h17⟩, h18⟩, h19⟩, h20⟩, h21⟩, h22⟩ := h
  exact ⟨h0, h1, h2, h3, h4, h5, h6, h7, h8, h9, h10, h11, h12, h13, h14, h15, h16, h17, h18, h19, h20, h21, h22⟩
set_option maxHeartbeats 8000000 in
theorem endStays_walk (n : Int) (W : World) : Calls Tryz.prog 12 #[.int .i64 n] W fun e W' => e = .returned (.bool true) ∧ Below W.heap.size W W' := by
  have HW := Lib.hid (fun w => within_any n 50 w (by omega) (by omega))
  obtain ⟨z, hz⟩ : ∃ z : Nat, n % 50 = (z : Int) := ⟨(n % 50).toNat, by omega⟩
  have hz50 : z < 50 := by omega
  rw [hz] at HW
  obtain ⟨a4, ha4⟩ : ∃ x : Int, 4 - (z : Int) = x := ⟨_, rfl⟩
  obtain ⟨a5, ha5⟩ : ∃ x : Int, 1048577 + (z : Int) = x := ⟨_, rfl⟩
  obtain ⟨a2, ha2⟩ : ∃ x : Int, 2 + (z : Int) = x := ⟨_, rfl⟩
  obtain ⟨am, ham⟩ : ∃ x : Int, -1 - (z : Int) = x := ⟨_, rfl⟩
  obtain ⟨a1, ha1⟩ : ∃ x : Int, 1 + (z : Int) = x := ⟨_, rfl⟩
  have HA1 := Lib.hid (show 0 ≤ a1 ∧ a1 ≤ 50 by omega)
  have HWa4 := Lib.hid (show wrap64 (4 - (z : Int)) = a4 from wrap_atS ha4 (by omega) (by omega))
  have HWa5 := Lib.hid (show wrap64 (1048577 + (z : Int)) = a5 from wrap_atS ha5 (by omega) (by omega))
  have HWa2 := Lib.hid (show wrap64 (2 + (z : Int)) = a2 from wrap_atS ha2 (by omega) (by omega))
  have HWam := Lib.hid (show wrap64 (-1 - (z : Int)) = am from wrap_atS ham (by omega) (by omega))
  have HWa1 := Lib.hid (show wrap64 (1 + (z : Int)) = a1 from wrap_atS ha1 (by omega) (by omega))
  obtain ⟨r9, r10, r11, r12, r13, r14, r15, r16, r17, r18, r19, r20, r21, r22, r23, r24, r25, r26, r27, r28, r29, r30, r31⟩ := esZ z hz50
  obtain ⟨r1, r2, r3, r4, r5, r6, r7, r8⟩ := esF
  rw [ha4] at r12
  rw [ha5] at r13
  rw [ha2] at r15 r18
  rw [ham] at r16
  rw [ha1] at r22 r24 r25
  have r1 := Lib.hid r1
  have r5 := Lib.hid r5
  have r6 := Lib.hid r6
  have r7 := Lib.hid r7
  have r8 := Lib.hid r8
  have r28 := Lib.hid r28
  have r30 := Lib.hid r30
  have r31 := Lib.hid r31
  clear hz hz50 ha4 ha5 ha2 ham ha1
  have hwa4 := HWa4.out
  have hwa5 := HWa5.out
  have hwa2 := HWa2.out
  have hwam := HWam.out
  have hwa1 := HWa1.out
  have kc := fun (w : World) (C : Array Value) (n c : Nat) => Lib.run_convert_bytes_const (P := Tryz.prog) w 29 5 C n c Tryz.underlying29 Tryz.underlying5
  go_enter Tryz.func12, Tryz.ntmps12
  go_wp2_with fail
  refine (plain_any _).mono ?_
  rintro e w1 ⟨rfl, hb⟩
  have HB := Lib.hid hb
  clear hb
  go_wp2_with fail
  refine (ev_new (w0 := W) w1 1 2 (by decide) 60 50 10 4 3 1 0 HB.out rfl (.inl rfl) (fun _ => 0) (fun k _ => by unfold Es; decide)).mono ?_
  rintro e w2 ⟨b, L2, rfl, hx, -⟩
  have H2 := Lib.hid (show EV W w2 L2 1 b (En.new plC 0) 0 from hx)
  clear hx HB
  go_wp2_with fail
  refine (HW.out _).mono ?_
  rintro e w' ⟨rfl, rfl⟩
  clear HW
  have hmk : ∀ w, (Instr.makeSlice 29 (.int .i64 100) (.int .i64 100)).run Tryz.prog w = .ok (.slice (some ⟨w.heap.size, 0, none⟩) 100 100) (w.alloc (.cells (bts esO) 5)) := esMk
  go_wp2_with fail
  refine (H2.out.writeLit (by decide) (m := 100) (ys := esO) rfl rfl rfl (by decide) (by decide) r1.out).mono ?_
  rintro e w3 ⟨rfl, L3, hx, ht⟩
  have H3 := Lib.hid (show EV W w3 L3 1 b es1 1 from hx)
  clear hx ht H2
  go_wp2_with fail
  refine (H3.out.tick (by decide) 5 r2).mono ?_
  rintro e w4 ⟨rfl, L4, hx, ht⟩
  have H4 := Lib.hid (show EV W w4 L4 1 b es2 2 from hx)
  clear hx ht H3
  go_wp2_with fail
  refine (H4.out.up (by decide) 0 r3).mono ?_
  rintro e w5 ⟨rfl, L5, hx, ht⟩
  have H5 := Lib.hid (show EV W w5 L5 1 b es3 3 from hx)
  clear hx ht H4
  go_wp2_with fail
  refine (H5.out.close (by decide) r4).mono ?_
  rintro e w6 ⟨rfl, L6, hx, ht⟩
  have H6 := Lib.hid (show EV W w6 L6 1 b es4 4 from hx)
  clear hx ht H5
  go_wp2_with fail
  refine (H6.out.take (by decide) (m := 1) rfl r5.out).mono ?_
  rintro e w7 ⟨A7, c7, L7, rfl, -, hx, ht⟩
  have H7 := Lib.hid (show EV W w7 L7 1 b es5 4 from hx)
  clear hx ht H6
  go_wp2_with fail
  refine (H7.out.events (by decide) (m := 5) rfl r6.out).mono ?_
  rintro e w8 ⟨ms, A8, c8, L8, rfl, -, -, hx, ht⟩
  have H8 := Lib.hid hx
  clear hx ht H7
  go_wp2_with fail
  refine (H8.out.state (xs := es5.state) rfl r7.out).mono ?_
  rintro e w9 ⟨SA, sc, L9, rfl, hst, hx, -⟩
  have H9 := Lib.hid hx
  have HST := Lib.hid hst
  clear hx hst H8
  go_wp2_with fail
  refine (H9.out.writeLit (by decide) (m := 1) (ys := [1]) rfl rfl rfl (by decide) (by decide) r8.out).mono ?_
  rintro e w10 ⟨rfl, L10, hx, ht⟩
  have H10 := Lib.hid (show EV W w10 L10 1 b es6 5 from hx)
  have HST := Lib.hid (HST.out.keep ht H10.out.relab0)
  clear hx ht H9
  go_wp2_with fail
  refine (H10.out.read (by decide) (z : Int) (xs := []) (m := 0) r9 rfl).mono ?_
  rintro e w11 ⟨A11, c11, L11, rfl, -, hx, ht⟩
  have H11 := Lib.hid (show EV W w11 L11 1 b (es7 z) 6 from hx)
  have HST := Lib.hid (HST.out.keep ht H11.out.relab0)
  clear hx ht H10
  go_wp2_with fail
  refine (H11.out.closeNo (by decide)  r10).mono ?_
  rintro e w12 ⟨rfl, L12, hx, ht⟩
  have H12 := Lib.hid (show EV W w12 L12 1 b (es7 z) 7 from hx)
  have HST := Lib.hid (HST.out.keep ht H12.out.relab0)
  clear hx ht H11
  go_wp2_with fail
  refine (H12.out.tickNo (by decide) 5 r11).mono ?_
  rintro e w13 ⟨rfl, L13, hx, ht⟩
  have H13 := Lib.hid (show EV W w13 L13 1 b (es7 z) 8 from hx)
  have HST := Lib.hid (HST.out.keep ht H13.out.relab0)
  clear hx ht H12
  go_wp2_with fail
  refine (H13.out.tickNo (by decide) a4 r12).mono ?_
  rintro e w14 ⟨rfl, L14, hx, ht⟩
  have H14 := Lib.hid (show EV W w14 L14 1 b (es7 z) 9 from hx)
  have HST := Lib.hid (HST.out.keep ht H14.out.relab0)
  clear hx ht H13
  go_wp2_with fail
  refine (H14.out.tickNo (by decide) a5 r13).mono ?_
  rintro e w15 ⟨rfl, L15, hx, ht⟩
  have H15 := Lib.hid (show EV W w15 L15 1 b (es7 z) 10 from hx)
  have HST := Lib.hid (HST.out.keep ht H15.out.relab0)
  clear hx ht H14
  go_wp2_with fail
  refine (H15.out.upNo (by decide) 0 r14).mono ?_
  rintro e w16 ⟨rfl, L16, hx, ht⟩
  have H16 := Lib.hid (show EV W w16 L16 1 b (es7 z) 11 from hx)
  have HST := Lib.hid (HST.out.keep ht H16.out.relab0)
  clear hx ht H15
  go_wp2_with fail
  refine (H16.out.upNo (by decide) a2 r15).mono ?_
  rintro e w17 ⟨rfl, L17, hx, ht⟩
  have H17 := Lib.hid (show EV W w17 L17 1 b (es7 z) 12 from hx)
  have HST := Lib.hid (HST.out.keep ht H17.out.relab0)
  clear hx ht H16
  go_wp2_with fail
  refine (H17.out.upNo (by decide) am r16).mono ?_
  rintro e w18 ⟨rfl, L18, hx, ht⟩
  have H18 := Lib.hid (show EV W w18 L18 1 b (es7 z) 13 from hx)
  have HST := Lib.hid (HST.out.keep ht H18.out.relab0)
  clear hx ht H17
  go_wp2_with fail
  refine (H18.out.downNo (by decide) 1 r17).mono ?_
  rintro e w19 ⟨rfl, L19, hx, ht⟩
  have H19 := Lib.hid (show EV W w19 L19 1 b (es7 z) 14 from hx)
  have HST := Lib.hid (HST.out.keep ht H19.out.relab0)
  clear hx ht H18
  go_wp2_with fail
  refine (H19.out.downNo (by decide) a2 r18).mono ?_
  rintro e w20 ⟨rfl, L20, hx, ht⟩
  have H20 := Lib.hid (show EV W w20 L20 1 b (es7 z) 15 from hx)
  have HST := Lib.hid (HST.out.keep ht H20.out.relab0)
  clear hx ht H19
  have HE := Lib.hid (show EV W w20 L20 1 b (esC z 0) 15 from H20.out)
  obtain ⟨g1, hg1⟩ : ∃ g, w20.heap.size = g := ⟨_, rfl⟩
  obtain ⟨v1, hv1⟩ : ∃ v, w20.alloc (.cells #[.int .u8 1] 5) = v := ⟨_, rfl⟩
  have hb1 : Below w20.heap.size w20 v1 := by rw [← hv1]; exact (Below.refl _ _).alloc (Nat.le_refl _) _
  have hsz : v1.heap.size = g1 + 1 := by rw [← hv1, ← hg1]; simp
  have hsd : See v1 (relab L20 w20.heap.size 0) ⟨⟨3, 0, 0, 0, 0, [1], false, 0, 0⟩, some ⟨g1, 0, none⟩, 1⟩ := by
    rw [← hv1, ← hg1]
    exact See.lit1 w20 L20 3 0 0 0 0 [1] false 0 0 _ (by decide) (by decide) (by decide)
  have hrow := RowS.lit v1 (relab L20 w20.heap.size 0) (esM a1 g1) (seeC (See.plain _ _ 0 0 0 0 0 false 0 0 (by decide)) (seeC (See.plain _ _ 1 0 0 0 0 false 0 0 (by decide)) (seeC (See.plain _ _ 2 1 0 0 0 false 0 0 (by decide)) (seeC (See.plain _ _ 2 0 0 a1 0 false 0 0 (by have := HA1.out; clear hwa4 hwa5 hwa2 hwam hwa1; simp; omega)) (seeC hsd (seeC (See.plain _ _ 4 0 0 a1 0 false 0 0 (by have := HA1.out; clear hwa4 hwa5 hwa2 hwam hwa1; simp; omega)) (seeC (See.plain _ _ 4 0 0 0 0 false a1 0 (by have := HA1.out; clear hwa4 hwa5 hwa2 hwam hwa1; simp; omega)) (seeC (See.plain _ _ 2 2 0 0 0 false 0 0 (by decide)) (see1 (See.plain _ _ 2 0 0 0 0 false 1 0 (by decide)))))))))))
  have hb2 : Below v1.heap.size v1 (v1.alloc (.cells #[.int .i64 0, .int .i64 0, .int .i64 0, .int .i64 0, .int .i64 0, .slice none 0 0, .bool false, .int .i64 0, .int .i64 0, .int .i64 1, .int .i64 0, .int .i64 0, .int .i64 0, .int .i64 0, .slice none 0 0, .bool false, .int .i64 0, .int .i64 0, .int .i64 2, .int .i64 1, .int .i64 0, .int .i64 0, .int .i64 0, .slice none 0 0, .bool false, .int .i64 0, .int .i64 0, .int .i64 2, .int .i64 0, .int .i64 0, .int .i64 a1, .int .i64 0, .slice none 0 0, .bool false, .int .i64 0, .int .i64 0, .int .i64 3, .int .i64 0, .int .i64 0, .int .i64 0, .int .i64 0, .slice (some ⟨g1, 0, none⟩) 1 1, .bool false, .int .i64 0, .int .i64 0, .int .i64 4, .int .i64 0, .int .i64 0, .int .i64 a1, .int .i64 0, .slice none 0 0, .bool false, .int .i64 0, .int .i64 0, .int .i64 4, .int .i64 0, .int .i64 0, .int .i64 0, .int .i64 0, .slice none 0 0, .bool false, .int .i64 a1, .int .i64 0, .int .i64 2, .int .i64 2, .int .i64 0, .int .i64 0, .int .i64 0, .slice none 0 0, .bool false, .int .i64 0, .int .i64 0, .int .i64 2, .int .i64 0, .int .i64 0, .int .i64 0, .int .i64 0, .slice none 0 0, .bool false, .int .i64 1, .int .i64 0] 32)) := (Below.refl _ _).alloc (Nat.le_refl _) _
  change RowS (v1.alloc (.cells #[.int .i64 0, .int .i64 0, .int .i64 0, .int .i64 0, .int .i64 0, .slice none 0 0, .bool false, .int .i64 0, .int .i64 0, .int .i64 1, .int .i64 0, .int .i64 0, .int .i64 0, .int .i64 0, .slice none 0 0, .bool false, .int .i64 0, .int .i64 0, .int .i64 2, .int .i64 1, .int .i64 0, .int .i64 0, .int .i64 0, .slice none 0 0, .bool false, .int .i64 0, .int .i64 0, .int .i64 2, .int .i64 0, .int .i64 0, .int .i64 a1, .int .i64 0, .slice none 0 0, .bool false, .int .i64 0, .int .i64 0, .int .i64 3, .int .i64 0, .int .i64 0, .int .i64 0, .int .i64 0, .slice (some ⟨g1, 0, none⟩) 1 1, .bool false, .int .i64 0, .int .i64 0, .int .i64 4, .int .i64 0, .int .i64 0, .int .i64 a1, .int .i64 0, .slice none 0 0, .bool false, .int .i64 0, .int .i64 0, .int .i64 4, .int .i64 0, .int .i64 0, .int .i64 0, .int .i64 0, .slice none 0 0, .bool false, .int .i64 a1, .int .i64 0, .int .i64 2, .int .i64 2, .int .i64 0, .int .i64 0, .int .i64 0, .slice none 0 0, .bool false, .int .i64 0, .int .i64 0, .int .i64 2, .int .i64 0, .int .i64 0, .int .i64 0, .int .i64 0, .slice none 0 0, .bool false, .int .i64 1, .int .i64 0] 32)) _ _ _ at hrow
  obtain ⟨v2, hv2⟩ : ∃ v, v1.alloc (.cells #[.int .i64 0, .int .i64 0, .int .i64 0, .int .i64 0, .int .i64 0, .slice none 0 0, .bool false, .int .i64 0, .int .i64 0, .int .i64 1, .int .i64 0, .int .i64 0, .int .i64 0, .int .i64 0, .slice none 0 0, .bool false, .int .i64 0, .int .i64 0, .int .i64 2, .int .i64 1, .int .i64 0, .int .i64 0, .int .i64 0, .slice none 0 0, .bool false, .int .i64 0, .int .i64 0, .int .i64 2, .int .i64 0, .int .i64 0, .int .i64 a1, .int .i64 0, .slice none 0 0, .bool false, .int .i64 0, .int .i64 0, .int .i64 3, .int .i64 0, .int .i64 0, .int .i64 0, .int .i64 0, .slice (some ⟨g1, 0, none⟩) 1 1, .bool false, .int .i64 0, .int .i64 0, .int .i64 4, .int .i64 0, .int .i64 0, .int .i64 a1, .int .i64 0, .slice none 0 0, .bool false, .int .i64 0, .int .i64 0, .int .i64 4, .int .i64 0, .int .i64 0, .int .i64 0, .int .i64 0, .slice none 0 0, .bool false, .int .i64 a1, .int .i64 0, .int .i64 2, .int .i64 2, .int .i64 0, .int .i64 0, .int .i64 0, .slice none 0 0, .bool false, .int .i64 0, .int .i64 0, .int .i64 2, .int .i64 0, .int .i64 0, .int .i64 0, .int .i64 0, .slice none 0 0, .bool false, .int .i64 1, .int .i64 0] 32) = v := ⟨_, rfl⟩
  rw [hv2] at hrow hb2
  obtain ⟨L0, hrow, HE, HST⟩ : ∃ L0, RowS v2 L0 (g1 + 1) (esM a1 g1) ∧ Hid (EV W v2 L0 1 b (esC z 0) 15) ∧ Hid (RdS v2 L0 SA es5.state) := ⟨_, by rw [← hsz]; exact hrow, Lib.hid ((HE.out.later hb1).later hb2), Lib.hid ((HST.out.keep (Tn.of_below hb1 _ 0 (fun _ => False)) id).keep (Tn.of_below hb2 _ 0 (fun _ => False)) id)⟩
  have HROW := Lib.hid hrow
  clear hrow hb1 hb2 hsd H20
  go_wp2_with fail
  clear hwa4 hwa5 hwa2 hwam hwa1
  go_loopw [123] (fun iv wr => ∃ (k : Nat) (Lk : Lab), k ≤ 9 ∧ iv = .int .i64 (k : Int) ∧ Hid (EV W wr Lk 1 b (esC z k) (15 + k)) ∧ Hid (RowS wr Lk (g1 + 1) (esM a1 g1)) ∧ Hid (RdS wr Lk SA es5.state)) (fun iv _ => 9 - (intOf iv).toNat)
  case atStart => exact ⟨0, L0, by omega, rfl, HE, HROW, HST⟩
  case round =>
    clear HE HROW HST hv1 hv2 hsz hg1
    obtain ⟨k, Lk, hk, rfl, hx, hr, ht⟩ := hrel
    by_cases hk9 : k < 9
    · have i1 : (k : Int) < 9 := by omega
      have HIW := Lib.hid (show wrap64 ((k : Int) + 1) = ((k + 1 : Nat) : Int) by unfold wrap64; omega)
      have hk : k = 0 ∨ k = 1 ∨ k = 2 ∨ k = 3 ∨ k = 4 ∨ k = 5 ∨ k = 6 ∨ k = 7 ∨ k = 8 := by omega
      clear HIW i1
      rcases hk with rfl | rfl | rfl | rfl | rfl | rfl | rfl | rfl | rfl
      · have hc := hr.out.rg 0 (by simp [esM])
        have x0 : wr.cell? ⟨g1 + 1, 0, none⟩ = some (.int .i64 0) := hc 0 _ rfl
        have x1 : wr.cell? ⟨g1 + 1, 1, none⟩ = some (.int .i64 0) := hc 1 _ rfl
        have x2 : wr.cell? ⟨g1 + 1, 2, none⟩ = some (.int .i64 0) := hc 2 _ rfl
        have x3 : wr.cell? ⟨g1 + 1, 3, none⟩ = some (.int .i64 0) := hc 3 _ rfl
        have x4 : wr.cell? ⟨g1 + 1, 4, none⟩ = some (.int .i64 0) := hc 4 _ rfl
        have x5 : wr.cell? ⟨g1 + 1, 5, none⟩ = some (.slice none 0 0) := hc 5 _ rfl
        have x6 : wr.cell? ⟨g1 + 1, 6, none⟩ = some (.bool false) := hc 6 _ rfl
        have x7 : wr.cell? ⟨g1 + 1, 7, none⟩ = some (.int .i64 0) := hc 7 _ rfl
        have x8 : wr.cell? ⟨g1 + 1, 8, none⟩ = some (.int .i64 0) := hc 8 _ rfl
        have HC := Lib.hid (show Calls Tryz.prog 22 #[.pointer (some ⟨b, 0, none⟩), .agg #[.int .i64 0, .int .i64 0, .int .i64 0, .int .i64 0, .int .i64 0, .slice none 0 0, .bool false, .int .i64 0, .int .i64 0]] (wr.alloc (.cells #[.int .i64 0, .int .i64 0, .int .i64 0, .int .i64 0, .int .i64 0, .slice none 0 0, .bool false, .int .i64 0, .int .i64 0] 32)) (EvA W wr Lk 1 b (esC z 1) (15 + 0 + 1) (.bool false)) from hx.out.comeVar (by decide) ⟨⟨0, 0, 0, 0, 0, [], false, 0, 0⟩, none, 0⟩ (hr.out.se _ (by simp [esM])) (by simp) ((esC_may z 0 _).trans r19) rfl)
        have HR := hr
        have HT := ht
        clear hc hx hr ht hk9
        go_wp2_with fail
        refine HC.out.mono ?_
        rintro e wa ⟨rfl, La, hx, ht⟩
        have HY := Lib.hid (show EV W wa La 1 b (esC z (0 + 1)) (15 + (0 + 1)) from hx)
        have HR := Lib.hid (HR.out.keep ht HY.out.relab0)
        have HT := Lib.hid (HT.out.keep ht HY.out.relab0)
        clear hx ht HC x0 x1 x2 x3 x4 x5 x6 x7 x8
        go_wp2
        go_roundw
        case rel => exact ⟨0 + 1, La, by omega, by first | rfl | go_num, HY, HR, HT⟩
        case measure => simp [intOf]
      · have hc := hr.out.rg 1 (by simp [esM])
        have x0 : wr.cell? ⟨g1 + 1, 9, none⟩ = some (.int .i64 1) := hc 0 _ rfl
        have x1 : wr.cell? ⟨g1 + 1, 10, none⟩ = some (.int .i64 0) := hc 1 _ rfl
        have x2 : wr.cell? ⟨g1 + 1, 11, none⟩ = some (.int .i64 0) := hc 2 _ rfl
        have x3 : wr.cell? ⟨g1 + 1, 12, none⟩ = some (.int .i64 0) := hc 3 _ rfl
        have x4 : wr.cell? ⟨g1 + 1, 13, none⟩ = some (.int .i64 0) := hc 4 _ rfl
        have x5 : wr.cell? ⟨g1 + 1, 14, none⟩ = some (.slice none 0 0) := hc 5 _ rfl
        have x6 : wr.cell? ⟨g1 + 1, 15, none⟩ = some (.bool false) := hc 6 _ rfl
        have x7 : wr.cell? ⟨g1 + 1, 16, none⟩ = some (.int .i64 0) := hc 7 _ rfl
        have x8 : wr.cell? ⟨g1 + 1, 17, none⟩ = some (.int .i64 0) := hc 8 _ rfl
        have HC := Lib.hid (show Calls Tryz.prog 22 #[.pointer (some ⟨b, 0, none⟩), .agg #[.int .i64 1, .int .i64 0, .int .i64 0, .int .i64 0, .int .i64 0, .slice none 0 0, .bool false, .int .i64 0, .int .i64 0]] (wr.alloc (.cells #[.int .i64 1, .int .i64 0, .int .i64 0, .int .i64 0, .int .i64 0, .slice none 0 0, .bool false, .int .i64 0, .int .i64 0] 32)) (EvA W wr Lk 1 b (esC z 2) (15 + 1 + 1) (.bool false)) from hx.out.comeVar (by decide) ⟨⟨1, 0, 0, 0, 0, [], false, 0, 0⟩, none, 0⟩ (hr.out.se _ (by simp [esM])) (by simp) ((esC_may z 1 _).trans r20) rfl)
        have HR := hr
        have HT := ht
        clear hc hx hr ht hk9
        go_wp2_with fail
        refine HC.out.mono ?_
        rintro e wa ⟨rfl, La, hx, ht⟩
        have HY := Lib.hid (show EV W wa La 1 b (esC z (1 + 1)) (15 + (1 + 1)) from hx)
        have HR := Lib.hid (HR.out.keep ht HY.out.relab0)
        have HT := Lib.hid (HT.out.keep ht HY.out.relab0)
        clear hx ht HC x0 x1 x2 x3 x4 x5 x6 x7 x8
        go_wp2
        go_roundw
        case rel => exact ⟨1 + 1, La, by omega, by first | rfl | go_num, HY, HR, HT⟩
        case measure => simp [intOf]
      · have hc := hr.out.rg 2 (by simp [esM])
        have x0 : wr.cell? ⟨g1 + 1, 18, none⟩ = some (.int .i64 2) := hc 0 _ rfl
        have x1 : wr.cell? ⟨g1 + 1, 19, none⟩ = some (.int .i64 1) := hc 1 _ rfl
        have x2 : wr.cell? ⟨g1 + 1, 20, none⟩ = some (.int .i64 0) := hc 2 _ rfl
        have x3 : wr.cell? ⟨g1 + 1, 21, none⟩ = some (.int .i64 0) := hc 3 _ rfl
        have x4 : wr.cell? ⟨g1 + 1, 22, none⟩ = some (.int .i64 0) := hc 4 _ rfl
        have x5 : wr.cell? ⟨g1 + 1, 23, none⟩ = some (.slice none 0 0) := hc 5 _ rfl
        have x6 : wr.cell? ⟨g1 + 1, 24, none⟩ = some (.bool false) := hc 6 _ rfl
        have x7 : wr.cell? ⟨g1 + 1, 25, none⟩ = some (.int .i64 0) := hc 7 _ rfl
        have x8 : wr.cell? ⟨g1 + 1, 26, none⟩ = some (.int .i64 0) := hc 8 _ rfl
        have HC := Lib.hid (show Calls Tryz.prog 22 #[.pointer (some ⟨b, 0, none⟩), .agg #[.int .i64 2, .int .i64 1, .int .i64 0, .int .i64 0, .int .i64 0, .slice none 0 0, .bool false, .int .i64 0, .int .i64 0]] (wr.alloc (.cells #[.int .i64 2, .int .i64 1, .int .i64 0, .int .i64 0, .int .i64 0, .slice none 0 0, .bool false, .int .i64 0, .int .i64 0] 32)) (EvA W wr Lk 1 b (esC z 3) (15 + 2 + 1) (.bool false)) from hx.out.comeVar (by decide) ⟨⟨2, 1, 0, 0, 0, [], false, 0, 0⟩, none, 0⟩ (hr.out.se _ (by simp [esM])) (by simp) ((esC_may z 2 _).trans r21) rfl)
        have HR := hr
        have HT := ht
        clear hc hx hr ht hk9
        go_wp2_with fail
        refine HC.out.mono ?_
        rintro e wa ⟨rfl, La, hx, ht⟩
        have HY := Lib.hid (show EV W wa La 1 b (esC z (2 + 1)) (15 + (2 + 1)) from hx)
        have HR := Lib.hid (HR.out.keep ht HY.out.relab0)
        have HT := Lib.hid (HT.out.keep ht HY.out.relab0)
        clear hx ht HC x0 x1 x2 x3 x4 x5 x6 x7 x8
        go_wp2
        go_roundw
        case rel => exact ⟨2 + 1, La, by omega, by first | rfl | go_num, HY, HR, HT⟩
        case measure => simp [intOf]
      · have hc := hr.out.rg 3 (by simp [esM])
        have x0 : wr.cell? ⟨g1 + 1, 27, none⟩ = some (.int .i64 2) := hc 0 _ rfl
        have x1 : wr.cell? ⟨g1 + 1, 28, none⟩ = some (.int .i64 0) := hc 1 _ rfl
        have x2 : wr.cell? ⟨g1 + 1, 29, none⟩ = some (.int .i64 0) := hc 2 _ rfl
        have x3 : wr.cell? ⟨g1 + 1, 30, none⟩ = some (.int .i64 a1) := hc 3 _ rfl
        have x4 : wr.cell? ⟨g1 + 1, 31, none⟩ = some (.int .i64 0) := hc 4 _ rfl
        have x5 : wr.cell? ⟨g1 + 1, 32, none⟩ = some (.slice none 0 0) := hc 5 _ rfl
        have x6 : wr.cell? ⟨g1 + 1, 33, none⟩ = some (.bool false) := hc 6 _ rfl
        have x7 : wr.cell? ⟨g1 + 1, 34, none⟩ = some (.int .i64 0) := hc 7 _ rfl
        have x8 : wr.cell? ⟨g1 + 1, 35, none⟩ = some (.int .i64 0) := hc 8 _ rfl
        have HC := Lib.hid (show Calls Tryz.prog 22 #[.pointer (some ⟨b, 0, none⟩), .agg #[.int .i64 2, .int .i64 0, .int .i64 0, .int .i64 a1, .int .i64 0, .slice none 0 0, .bool false, .int .i64 0, .int .i64 0]] (wr.alloc (.cells #[.int .i64 2, .int .i64 0, .int .i64 0, .int .i64 a1, .int .i64 0, .slice none 0 0, .bool false, .int .i64 0, .int .i64 0] 32)) (EvA W wr Lk 1 b (esC z 4) (15 + 3 + 1) (.bool false)) from hx.out.comeVar (by decide) ⟨⟨2, 0, 0, a1, 0, [], false, 0, 0⟩, none, 0⟩ (hr.out.se _ (by simp [esM])) (by simp) ((esC_may z 3 _).trans r22) rfl)
        have HR := hr
        have HT := ht
        clear hc hx hr ht hk9
        go_wp2_with fail
        refine HC.out.mono ?_
        rintro e wa ⟨rfl, La, hx, ht⟩
        have HY := Lib.hid (show EV W wa La 1 b (esC z (3 + 1)) (15 + (3 + 1)) from hx)
        have HR := Lib.hid (HR.out.keep ht HY.out.relab0)
        have HT := Lib.hid (HT.out.keep ht HY.out.relab0)
        clear hx ht HC x0 x1 x2 x3 x4 x5 x6 x7 x8
        go_wp2
        go_roundw
        case rel => exact ⟨3 + 1, La, by omega, by first | rfl | go_num, HY, HR, HT⟩
        case measure => simp [intOf]
      · have hc := hr.out.rg 4 (by simp [esM])
        have x0 : wr.cell? ⟨g1 + 1, 36, none⟩ = some (.int .i64 3) := hc 0 _ rfl
        have x1 : wr.cell? ⟨g1 + 1, 37, none⟩ = some (.int .i64 0) := hc 1 _ rfl
        have x2 : wr.cell? ⟨g1 + 1, 38, none⟩ = some (.int .i64 0) := hc 2 _ rfl
        have x3 : wr.cell? ⟨g1 + 1, 39, none⟩ = some (.int .i64 0) := hc 3 _ rfl
        have x4 : wr.cell? ⟨g1 + 1, 40, none⟩ = some (.int .i64 0) := hc 4 _ rfl
        have x5 : wr.cell? ⟨g1 + 1, 41, none⟩ = some (.slice (some ⟨g1, 0, none⟩) 1 1) := hc 5 _ rfl
        have x6 : wr.cell? ⟨g1 + 1, 42, none⟩ = some (.bool false) := hc 6 _ rfl
        have x7 : wr.cell? ⟨g1 + 1, 43, none⟩ = some (.int .i64 0) := hc 7 _ rfl
        have x8 : wr.cell? ⟨g1 + 1, 44, none⟩ = some (.int .i64 0) := hc 8 _ rfl
        have HC := Lib.hid (show Calls Tryz.prog 22 #[.pointer (some ⟨b, 0, none⟩), .agg #[.int .i64 3, .int .i64 0, .int .i64 0, .int .i64 0, .int .i64 0, .slice (some ⟨g1, 0, none⟩) 1 1, .bool false, .int .i64 0, .int .i64 0]] (wr.alloc (.cells #[.int .i64 3, .int .i64 0, .int .i64 0, .int .i64 0, .int .i64 0, .slice (some ⟨g1, 0, none⟩) 1 1, .bool false, .int .i64 0, .int .i64 0] 32)) (EvA W wr Lk 1 b (esC z 5) (15 + 4 + 1) (.bool false)) from hx.out.comeVar (by decide) ⟨⟨3, 0, 0, 0, 0, [1], false, 0, 0⟩, some ⟨g1, 0, none⟩, 1⟩ (hr.out.se _ (by simp [esM])) (by simp) ((esC_may z 4 _).trans r23) rfl)
        have HR := hr
        have HT := ht
        clear hc hx hr ht hk9
        go_wp2_with fail
        refine HC.out.mono ?_
        rintro e wa ⟨rfl, La, hx, ht⟩
        have HY := Lib.hid (show EV W wa La 1 b (esC z (4 + 1)) (15 + (4 + 1)) from hx)
        have HR := Lib.hid (HR.out.keep ht HY.out.relab0)
        have HT := Lib.hid (HT.out.keep ht HY.out.relab0)
        clear hx ht HC x0 x1 x2 x3 x4 x5 x6 x7 x8
        go_wp2
        go_roundw
        case rel => exact ⟨4 + 1, La, by omega, by first | rfl | go_num, HY, HR, HT⟩
        case measure => simp [intOf]
      · have hc := hr.out.rg 5 (by simp [esM])
        have x0 : wr.cell? ⟨g1 + 1, 45, none⟩ = some (.int .i64 4) := hc 0 _ rfl
        have x1 : wr.cell? ⟨g1 + 1, 46, none⟩ = some (.int .i64 0) := hc 1 _ rfl
        have x2 : wr.cell? ⟨g1 + 1, 47, none⟩ = some (.int .i64 0) := hc 2 _ rfl
        have x3 : wr.cell? ⟨g1 + 1, 48, none⟩ = some (.int .i64 a1) := hc 3 _ rfl
        have x4 : wr.cell? ⟨g1 + 1, 49, none⟩ = some (.int .i64 0) := hc 4 _ rfl
        have x5 : wr.cell? ⟨g1 + 1, 50, none⟩ = some (.slice none 0 0) := hc 5 _ rfl
        have x6 : wr.cell? ⟨g1 + 1, 51, none⟩ = some (.bool false) := hc 6 _ rfl
        have x7 : wr.cell? ⟨g1 + 1, 52, none⟩ = some (.int .i64 0) := hc 7 _ rfl
        have x8 : wr.cell? ⟨g1 + 1, 53, none⟩ = some (.int .i64 0) := hc 8 _ rfl
        have HC := Lib.hid (show Calls Tryz.prog 22 #[.pointer (some ⟨b, 0, none⟩), .agg #[.int .i64 4, .int .i64 0, .int .i64 0, .int .i64 a1, .int .i64 0, .slice none 0 0, .bool false, .int .i64 0, .int .i64 0]] (wr.alloc (.cells #[.int .i64 4, .int .i64 0, .int .i64 0, .int .i64 a1, .int .i64 0, .slice none 0 0, .bool false, .int .i64 0, .int .i64 0] 32)) (EvA W wr Lk 1 b (esC z 6) (15 + 5 + 1) (.bool false)) from hx.out.comeVar (by decide) ⟨⟨4, 0, 0, a1, 0, [], false, 0, 0⟩, none, 0⟩ (hr.out.se _ (by simp [esM])) (by simp) ((esC_may z 5 _).trans r24) rfl)
        have HR := hr
        have HT := ht
        clear hc hx hr ht hk9
        go_wp2_with fail
        refine HC.out.mono ?_
        rintro e wa ⟨rfl, La, hx, ht⟩
        have HY := Lib.hid (show EV W wa La 1 b (esC z (5 + 1)) (15 + (5 + 1)) from hx)
        have HR := Lib.hid (HR.out.keep ht HY.out.relab0)
        have HT := Lib.hid (HT.out.keep ht HY.out.relab0)
        clear hx ht HC x0 x1 x2 x3 x4 x5 x6 x7 x8
        go_wp2
        go_roundw
        case rel => exact ⟨5 + 1, La, by omega, by first | rfl | go_num, HY, HR, HT⟩
        case measure => simp [intOf]
      · have hc := hr.out.rg 6 (by simp [esM])
        have x0 : wr.cell? ⟨g1 + 1, 54, none⟩ = some (.int .i64 4) := hc 0 _ rfl
        have x1 : wr.cell? ⟨g1 + 1, 55, none⟩ = some (.int .i64 0) := hc 1 _ rfl
        have x2 : wr.cell? ⟨g1 + 1, 56, none⟩ = some (.int .i64 0) := hc 2 _ rfl
        have x3 : wr.cell? ⟨g1 + 1, 57, none⟩ = some (.int .i64 0) := hc 3 _ rfl
        have x4 : wr.cell? ⟨g1 + 1, 58, none⟩ = some (.int .i64 0) := hc 4 _ rfl
        have x5 : wr.cell? ⟨g1 + 1, 59, none⟩ = some (.slice none 0 0) := hc 5 _ rfl
        have x6 : wr.cell? ⟨g1 + 1, 60, none⟩ = some (.bool false) := hc 6 _ rfl
        have x7 : wr.cell? ⟨g1 + 1, 61, none⟩ = some (.int .i64 a1) := hc 7 _ rfl
        have x8 : wr.cell? ⟨g1 + 1, 62, none⟩ = some (.int .i64 0) := hc 8 _ rfl
        have HC := Lib.hid (show Calls Tryz.prog 22 #[.pointer (some ⟨b, 0, none⟩), .agg #[.int .i64 4, .int .i64 0, .int .i64 0, .int .i64 0, .int .i64 0, .slice none 0 0, .bool false, .int .i64 a1, .int .i64 0]] (wr.alloc (.cells #[.int .i64 4, .int .i64 0, .int .i64 0, .int .i64 0, .int .i64 0, .slice none 0 0, .bool false, .int .i64 a1, .int .i64 0] 32)) (EvA W wr Lk 1 b (esC z 7) (15 + 6 + 1) (.bool false)) from hx.out.comeVar (by decide) ⟨⟨4, 0, 0, 0, 0, [], false, a1, 0⟩, none, 0⟩ (hr.out.se _ (by simp [esM])) (by simp) ((esC_may z 6 _).trans r25) rfl)
        have HR := hr
        have HT := ht
        clear hc hx hr ht hk9
        go_wp2_with fail
        refine HC.out.mono ?_
        rintro e wa ⟨rfl, La, hx, ht⟩
        have HY := Lib.hid (show EV W wa La 1 b (esC z (6 + 1)) (15 + (6 + 1)) from hx)
        have HR := Lib.hid (HR.out.keep ht HY.out.relab0)
        have HT := Lib.hid (HT.out.keep ht HY.out.relab0)
        clear hx ht HC x0 x1 x2 x3 x4 x5 x6 x7 x8
        go_wp2
        go_roundw
        case rel => exact ⟨6 + 1, La, by omega, by first | rfl | go_num, HY, HR, HT⟩
        case measure => simp [intOf]
      · have hc := hr.out.rg 7 (by simp [esM])
        have x0 : wr.cell? ⟨g1 + 1, 63, none⟩ = some (.int .i64 2) := hc 0 _ rfl
        have x1 : wr.cell? ⟨g1 + 1, 64, none⟩ = some (.int .i64 2) := hc 1 _ rfl
        have x2 : wr.cell? ⟨g1 + 1, 65, none⟩ = some (.int .i64 0) := hc 2 _ rfl
        have x3 : wr.cell? ⟨g1 + 1, 66, none⟩ = some (.int .i64 0) := hc 3 _ rfl
        have x4 : wr.cell? ⟨g1 + 1, 67, none⟩ = some (.int .i64 0) := hc 4 _ rfl
        have x5 : wr.cell? ⟨g1 + 1, 68, none⟩ = some (.slice none 0 0) := hc 5 _ rfl
        have x6 : wr.cell? ⟨g1 + 1, 69, none⟩ = some (.bool false) := hc 6 _ rfl
        have x7 : wr.cell? ⟨g1 + 1, 70, none⟩ = some (.int .i64 0) := hc 7 _ rfl
        have x8 : wr.cell? ⟨g1 + 1, 71, none⟩ = some (.int .i64 0) := hc 8 _ rfl
        have HC := Lib.hid (show Calls Tryz.prog 22 #[.pointer (some ⟨b, 0, none⟩), .agg #[.int .i64 2, .int .i64 2, .int .i64 0, .int .i64 0, .int .i64 0, .slice none 0 0, .bool false, .int .i64 0, .int .i64 0]] (wr.alloc (.cells #[.int .i64 2, .int .i64 2, .int .i64 0, .int .i64 0, .int .i64 0, .slice none 0 0, .bool false, .int .i64 0, .int .i64 0] 32)) (EvA W wr Lk 1 b (esC z 8) (15 + 7 + 1) (.bool false)) from hx.out.comeVar (by decide) ⟨⟨2, 2, 0, 0, 0, [], false, 0, 0⟩, none, 0⟩ (hr.out.se _ (by simp [esM])) (by simp) ((esC_may z 7 _).trans r26) rfl)
        have HR := hr
        have HT := ht
        clear hc hx hr ht hk9
        go_wp2_with fail
        refine HC.out.mono ?_
        rintro e wa ⟨rfl, La, hx, ht⟩
        have HY := Lib.hid (show EV W wa La 1 b (esC z (7 + 1)) (15 + (7 + 1)) from hx)
        have HR := Lib.hid (HR.out.keep ht HY.out.relab0)
        have HT := Lib.hid (HT.out.keep ht HY.out.relab0)
        clear hx ht HC x0 x1 x2 x3 x4 x5 x6 x7 x8
        go_wp2
        go_roundw
        case rel => exact ⟨7 + 1, La, by omega, by first | rfl | go_num, HY, HR, HT⟩
        case measure => simp [intOf]
      · have hc := hr.out.rg 8 (by simp [esM])
        have x0 : wr.cell? ⟨g1 + 1, 72, none⟩ = some (.int .i64 2) := hc 0 _ rfl
        have x1 : wr.cell? ⟨g1 + 1, 73, none⟩ = some (.int .i64 0) := hc 1 _ rfl
        have x2 : wr.cell? ⟨g1 + 1, 74, none⟩ = some (.int .i64 0) := hc 2 _ rfl
        have x3 : wr.cell? ⟨g1 + 1, 75, none⟩ = some (.int .i64 0) := hc 3 _ rfl
        have x4 : wr.cell? ⟨g1 + 1, 76, none⟩ = some (.int .i64 0) := hc 4 _ rfl
        have x5 : wr.cell? ⟨g1 + 1, 77, none⟩ = some (.slice none 0 0) := hc 5 _ rfl
        have x6 : wr.cell? ⟨g1 + 1, 78, none⟩ = some (.bool false) := hc 6 _ rfl
        have x7 : wr.cell? ⟨g1 + 1, 79, none⟩ = some (.int .i64 1) := hc 7 _ rfl
        have x8 : wr.cell? ⟨g1 + 1, 80, none⟩ = some (.int .i64 0) := hc 8 _ rfl
        have HC := Lib.hid (show Calls Tryz.prog 22 #[.pointer (some ⟨b, 0, none⟩), .agg #[.int .i64 2, .int .i64 0, .int .i64 0, .int .i64 0, .int .i64 0, .slice none 0 0, .bool false, .int .i64 1, .int .i64 0]] (wr.alloc (.cells #[.int .i64 2, .int .i64 0, .int .i64 0, .int .i64 0, .int .i64 0, .slice none 0 0, .bool false, .int .i64 1, .int .i64 0] 32)) (EvA W wr Lk 1 b (esC z 9) (15 + 8 + 1) (.bool false)) from hx.out.comeVar (by decide) ⟨⟨2, 0, 0, 0, 0, [], false, 1, 0⟩, none, 0⟩ (hr.out.se _ (by simp [esM])) (by simp) ((esC_may z 8 _).trans r27) rfl)
        have HR := hr
        have HT := ht
        clear hc hx hr ht hk9
        go_wp2_with fail
        refine HC.out.mono ?_
        rintro e wa ⟨rfl, La, hx, ht⟩
        have HY := Lib.hid (show EV W wa La 1 b (esC z (8 + 1)) (15 + (8 + 1)) from hx)
        have HR := Lib.hid (HR.out.keep ht HY.out.relab0)
        have HT := Lib.hid (HT.out.keep ht HY.out.relab0)
        clear hx ht HC x0 x1 x2 x3 x4 x5 x6 x7 x8
        go_wp2
        go_roundw
        case rel => exact ⟨8 + 1, La, by omega, by first | rfl | go_num, HY, HR, HT⟩
        case measure => simp [intOf]
    · have e9 : k = 9 := by omega
      subst e9
      have HE := hx
      have HST := ht
      clear hx ht hr hk hk9
      go_wp2_with fail
      refine (HE.out.events (by decide) (m := 5) rfl r28.out).mono ?_
      rintro e w201 ⟨ms, A201, c201, L201, rfl, -, -, hx, ht⟩
      have H201 := Lib.hid hx
      have HST := Lib.hid (HST.out.keep ht H201.out.relab0)
      clear hx ht HE
      go_wp2_with fail
      refine (H201.out.state (xs := es5.state) r29 r7.out).mono ?_
      rintro e w202 ⟨SB, sd, L202, rfl, hst, hx, ht⟩
      have H202 := Lib.hid hx
      have HST := Lib.hid (HST.out.keep ht H202.out.relab0)
      have HSU := Lib.hid hst
      clear hx ht hst H201
      go_wp2_with fail
      refine (H202.out.sameRows r7.out HSU.out HST.out (by decide)).mono ?_
      rintro e w203 ⟨rfl, L203, hx, -⟩
      have H203 := Lib.hid hx
      clear hx HSU HST H202
      go_wp2_with fail
      refine (H203.out.take (by decide) (m := 0) rfl r30.out).mono ?_
      rintro e w204 ⟨A204, c204, L204, rfl, -, hx, -⟩
      have H204 := Lib.hid hx
      clear hx H203
      go_wp2_with fail
      refine (H204.out.now r31.out).mono ?_
      rintro e w' ⟨rfl, rfl⟩
      have HF := Lib.hid H204.out.bel
      clear H204
      go_wp2_with fail
      refine (wakes19_any _).mono ?_
      rintro e wz ⟨rfl, hb⟩
      have HFIN := Lib.hid (HF.out.trans (hb.mono HF.out.size))
      clear hb HF
      go_wp2
      go_ret
      exact ⟨rfl, HFIN.out⟩
end Go.Proofs.YtpjlnpnadkbakaaGreat
