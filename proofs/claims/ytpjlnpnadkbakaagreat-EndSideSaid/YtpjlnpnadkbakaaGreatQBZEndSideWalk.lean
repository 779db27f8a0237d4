/-
  The walk of EndSide.
-/
import Derived.Test.YtpjlnpnadkbakaaGreatQBPrEvK
import Derived.Deep.CutBlock
import Derived.Deep.DeepCutAuto
import Derived.Lib.SlBytesConst
namespace Go.Proofs.YtpjlnpnadkbakaaGreat
set_option maxRecDepth 10000
open Go.RowKit
noncomputable def sd1 : En := (En.new plC 1).write [97, 98, 99]
noncomputable def sd2 : En := sd1.up 0
noncomputable def sd3 : En := sd2.up 1
noncomputable def sd4 : En := sd3.taken
noncomputable def sdT : Nat → En
  | 0 => sd4
  | k + 1 => ((sdT k).tick ((k : Int) + 1)).taken
theorem sdTA : (List.range 9).all (fun k => (sdT k).mayT ((k : Int) + 1) && decide (((sdT k).tick ((k : Int) + 1)).out = [])) = true := by kernel_rfl
theorem sdTF (k : Nat) (hk : k < 9) : (sdT k).mayT ((k : Int) + 1) = true ∧ ((sdT k).tick ((k : Int) + 1)).out = [] := by
  have h := List.all_eq_true.1 sdTA k (List.mem_range.2 hk)
  simp only [Bool.and_eq_true, decide_eq_true_eq] at h
  exact h
noncomputable def sd5 (T : Nat) : En := (sdT T).comeC ⟨2, 0, 0, 0, 0, [], false, 0, 0⟩
noncomputable def sd6 (T : Nat) : En := (sd5 T).comeC ⟨3, 0, 0, 0, 0, [120], false, 0, 0⟩
noncomputable def sd7 (z T : Nat) : En := (sd6 T).comeC ⟨1, 1, (z : Int), 0, 0, [], false, 0, 0⟩
noncomputable def sd8 (z T : Nat) : En := (sd7 z T).taken
noncomputable def sd9 (z T : Nat) : En := (sd8 z T).comeC ⟨1, 1, ((z : Int) + 1), 0, 0, [], false, 0, 0⟩
noncomputable def sd10 (z T : Nat) : En := (sd9 z T).taken
noncomputable def sd11 (z T : Nat) : En := (sd10 z T).tick 20
noncomputable def sd12 (z T : Nat) : En := (sd11 z T).taken
theorem sdF : (En.new plC 1).takes [97, 98, 99] = 3 ∧ (sd1).mayU 0 = true ∧ (sd2).mayU 1 = true ∧ (sd3).out = [] := by
  refine ⟨?_, ?_, ?_, ?_⟩ <;> kernel_rfl
noncomputable def sdB (z T : Nat) : Bool := (!(sdT T).mayC ⟨2, 0, 0, 0, 0, [], false, 0, 0⟩) && (!(sd5 T).mayC ⟨3, 0, 0, 0, 0, [120], false, 0, 0⟩) && ((sd6 T).mayC ⟨1, 1, (z : Int), 0, 0, [], false, 0, 0⟩) && (decide ((sd7 z T).out = [⟨2, 1, 0, (z : Int), 0, [], false, 0, 0⟩])) && ((sd8 z T).mayC ⟨1, 1, ((z : Int) + 1), 0, 0, [], false, 0, 0⟩) && (decide ((sd9 z T).out = [⟨2, 1, 1, ((z : Int) + 1), 0, [], false, 0, 0⟩])) && ((sd10 z T).mayT 20) && (decide ((sd11 z T).out = [⟨3, 1, 2, 0, 0, [97, 98, 99], false, 0, 0⟩]))
theorem sdA : (List.range 50).all (fun z => (List.range 9).all (fun k => sdB z k)) = true := by kernel_rfl
theorem sdZ (z T : Nat) (hz : z < 50) (hk : T < 9) : (sdT T).mayC ⟨2, 0, 0, 0, 0, [], false, 0, 0⟩ = false ∧ (sd5 T).mayC ⟨3, 0, 0, 0, 0, [120], false, 0, 0⟩ = false ∧ (sd6 T).mayC ⟨1, 1, (z : Int), 0, 0, [], false, 0, 0⟩ = true ∧ (sd7 z T).out = [⟨2, 1, 0, (z : Int), 0, [], false, 0, 0⟩] ∧ (sd8 z T).mayC ⟨1, 1, ((z : Int) + 1), 0, 0, [], false, 0, 0⟩ = true ∧ (sd9 z T).out = [⟨2, 1, 1, ((z : Int) + 1), 0, [], false, 0, 0⟩] ∧ (sd10 z T).mayT 20 = true ∧ (sd11 z T).out = [⟨3, 1, 2, 0, 0, [97, 98, 99], false, 0, 0⟩] := by
  have h := List.all_eq_true.1 (List.all_eq_true.1 sdA z (List.mem_range.2 hz)) T (List.mem_range.2 hk)
  simp only [sdB, Bool.and_eq_true, decide_eq_true_eq, Bool.not_eq_true'] at h
  obtain ⟨⟨⟨⟨⟨⟨⟨h0, h1⟩, h2⟩, h3⟩, h4⟩, h5⟩, h6⟩, h7⟩ := h
  exact ⟨h0, h1, h2, h3, h4, h5, h6, h7⟩
set_option maxHeartbeats 8000000 in
theorem endSide_walk (n t : Int) (W : World) : Calls Tryz.prog 15 #[.int .i64 n, .int .i64 t] W fun e W' => e = .returned (.bool true) ∧ Below W.heap.size W W' := by
  obtain ⟨r1, r2, r3, r4⟩ := sdF
  have HW := Lib.hid (fun w => within_any n 50 w (by omega) (by omega))
  have HW2 := Lib.hid (fun w => within_any t 9 w (by omega) (by omega))
  obtain ⟨z, hz⟩ : ∃ z : Nat, n % 50 = (z : Int) := ⟨(n % 50).toNat, by omega⟩
  obtain ⟨T, hT⟩ : ∃ z : Nat, t % 9 = (z : Int) := ⟨(t % 9).toNat, by omega⟩
  have hz50 : z < 50 := by omega
  have hT9 : T < 9 := by omega
  rw [hz] at HW
  rw [hT] at HW2
  have HZ := Lib.hid hz50
  have HT9 := Lib.hid hT9
  clear hz hT hz50 hT9
  have kc := fun (w : World) (C : Array Value) (n c : Nat) => Lib.run_convert_bytes_const (P := Tryz.prog) w 29 5 C n c Tryz.underlying29 Tryz.underlying5
  go_enter Tryz.func15, Tryz.ntmps15
  go_wp2_with fail
  refine (plain_any _).mono ?_
  rintro e w1 ⟨rfl, hb⟩
  have HB := Lib.hid hb
  clear hb
  go_wp2_with fail
  refine (ev_new (w0 := W) w1 1 2 (by omega) 60 50 10 4 3 1 1 HB.out rfl (.inr rfl) (fun _ => 0) (fun k _ => by unfold Es; omega)).mono ?_
  rintro e w2 ⟨b, L2, rfl, hx, -⟩
  have H2 := Lib.hid (show EV W w2 L2 1 b (En.new plC 1) 0 from hx)
  clear hx HB
  go_wp2_with fail
  refine (H2.out.writeLit (by omega) (m := 3) (ys := [97, 98, 99]) rfl rfl rfl (by omega) (by decide) r1).mono ?_
  rintro e w3 ⟨rfl, L3, hx, ht⟩
  have H3 := Lib.hid (show EV W w3 L3 1 b sd1 1 from hx)
  clear hx ht H2
  go_wp2_with fail
  refine (H3.out.up (by omega) 0 r2).mono ?_
  rintro e w4 ⟨rfl, L4, hx, ht⟩
  have H4 := Lib.hid (show EV W w4 L4 1 b sd2 2 from hx)
  clear hx ht H3
  go_wp2_with fail
  refine (H4.out.up (by omega) 1 r3).mono ?_
  rintro e w5 ⟨rfl, L5, hx, ht⟩
  have H5 := Lib.hid (show EV W w5 L5 1 b sd3 3 from hx)
  clear hx ht H4
  go_wp2_with fail
  refine (H5.out.saidNo (by omega) r4).mono ?_
  rintro e w6 ⟨rfl, L6, hx, ht⟩
  have H6 := Lib.hid (show EV W w6 L6 1 b sd4 3 from hx)
  clear hx ht H5
  go_wp2_with fail
  refine (HW.out _).mono ?_
  rintro e w' ⟨rfl, rfl⟩
  clear HW
  go_wp2_with fail
  go_loopw [7] (fun tv wr => ∃ (k : Nat) (Lk : Lab), k ≤ T ∧ tv = .int .i64 ((k : Int) + 1) ∧ Hid (EV W wr Lk 1 b (sdT k) (3 + k))) (fun tv _ => T + 1 - (intOf tv).toNat)
  case atStart => exact ⟨0, L6, by omega, rfl, H6⟩
  case round =>
    clear H6
    obtain ⟨k, Lk, hk, rfl, hx⟩ := hrel
    have HI := Lib.hid hk
    have HX := hx
    clear hk hx
    go_wp2_with fail
    refine (HW2.out _).mono ?_
    rintro e w' ⟨rfl, rfl⟩
    by_cases hkt : k < T
    · have i1 : (k : Int) + 1 ≤ (T : Int) := by omega
      have HK := Lib.hid hkt
      obtain ⟨t1, t2⟩ := sdTF k (by have := HT9.out; omega)
      have HIW := Lib.hid (show wrap64 ((k : Int) + 1 + 1) = ((k + 1 : Nat) : Int) + 1 ∧ IntKind.i64.wrap ((k : Int) + 1 + 1) = ((k + 1 : Nat) : Int) + 1 from ⟨by have := HT9.out; unfold wrap64; omega, by rw [show ((k : Int) + 1 + 1) = ((k + 1 : Nat) : Int) + 1 by omega]; exact IntWalk.i64_in _ (by have := HT9.out; constructor <;> omega)⟩)
      clear hkt
      go_wp2_with fail
      refine (HX.out.tick (by have := HT9.out; have := HI.out; omega) ((k : Int) + 1) t1).mono ?_
      rintro e wa ⟨rfl, La, hx, -⟩
      have HY := Lib.hid hx
      clear hx HX
      go_wp2_with fail
      refine (HY.out.saidNo (by have := HT9.out; have := HI.out; omega) t2).mono ?_
      rintro e wb ⟨rfl, Lb, hx, -⟩
      have HX := Lib.hid (show EV W wb Lb 1 b (sdT (k + 1)) (3 + (k + 1)) from hx)
      clear hx HY
      go_wp2
      go_roundw
      case rel => exact ⟨k + 1, Lb, by have := HK.out; omega, by first | rfl | (rw [HIW.out.1]) | (rw [HIW.out.2]) | go_num, HX⟩
      case measure => (try rw [HIW.out.1]); have := HK.out; simp [intOf]; omega
    · have i1 : decide ((k : Int) + 1 ≤ (T : Int)) = false := decide_eq_false (by omega)
      have e1 : k = T := by have := HI.out; omega
      have HX := Lib.hid (show EV W wr Lk 1 b (sdT T) (3 + T) by rw [← e1]; exact HX.out)
      clear hkt HI e1
      have hk9 := HT9.out
      have hz50 := HZ.out
      obtain ⟨r5, r6, r7, r8, r9, r10, r11, r12⟩ := sdZ z T hz50 hk9
      have HS := Lib.hid (show Calls Tryz.prog 22 #[.pointer (some ⟨b, 0, none⟩), .agg #[.int .i64 2, .int .i64 0, .int .i64 0, .int .i64 0, .int .i64 0, .slice none 0 0, .bool false, .int .i64 0, .int .i64 0]] wr _ from HX.out.comeP (by omega) 2 0 0 0 0 false 0 0 (by decide) r5)
      go_wp2_with fail
      refine HS.out.mono ?_
      rintro e w11 ⟨rfl, L11, hx, ht⟩
      have H11 := Lib.hid (show EV W w11 L11 1 b (sd5 T) (3 + T + 1) from hx)
      clear hx ht HX HS
      go_wp2_with fail
      refine (H11.out.data 0 0 _ false [120] 1 (by kernel_rfl) rfl (by decide) (by omega)).mono ?_
      rintro e w12 ⟨qa, ca, L12, rfl, hx, hs, ht, hqa⟩
      have H12 := Lib.hid hx
      have Sa := Lib.hid hs
      clear hx hs ht hqa H11
      have HS := Lib.hid (show Calls Tryz.prog 22 #[.pointer (some ⟨b, 0, none⟩), .agg #[.int .i64 3, .int .i64 0, .int .i64 0, .int .i64 0, .int .i64 0, .slice (some ⟨qa, 0, none⟩) 1 ca, .bool false, .int .i64 0, .int .i64 0]] w12 _ from H12.out.comeSee (by omega) ⟨⟨3, 0, 0, 0, 0, [120], false, 0, 0⟩, some ⟨qa, 0, none⟩, ca⟩ Sa.out (by simp) r6)
      go_wp2_with fail
      refine HS.out.mono ?_
      rintro e w13 ⟨rfl, L13, hx, ht⟩
      have H13 := Lib.hid (show EV W w13 L13 1 b (sd6 T) (3 + T + 2) from hx)
      clear hx ht H12 HS
      clear Sa
      have HS := Lib.hid (show Calls Tryz.prog 22 #[.pointer (some ⟨b, 0, none⟩), .agg #[.int .i64 1, .int .i64 1, .int .i64 (z : Int), .int .i64 0, .int .i64 0, .slice none 0 0, .bool false, .int .i64 0, .int .i64 0]] w13 _ from H13.out.comeP (by omega) 1 1 (z : Int) 0 0 false 0 0 (by have := HZ.out; simp; omega) r7)
      go_wp2_with fail
      refine HS.out.mono ?_
      rintro e w14 ⟨rfl, L14, hx, ht⟩
      have H14 := Lib.hid (show EV W w14 L14 1 b (sd7 z T) (3 + T + 3) from hx)
      clear hx ht H13 HS
      have HS := Lib.hid (show Calls Tryz.prog 19 #[.pointer (some ⟨b, 0, none⟩), .slice (some ⟨w14.heap.size, 0, none⟩) 1 1] (w14.alloc (.cells #[.int .i64 2, .int .i64 1, .int .i64 0, .int .i64 (z : Int), .int .i64 0, .slice none 0 0, .bool false, .int .i64 0, .int .i64 0] 32)) _ from H14.out.saidSee (by omega) [⟨⟨2, 1, 0, (z : Int), 0, [], false, 0, 0⟩, none, 0⟩] (see1 (See.plain _ _ 2 1 0 (z : Int) 0 false 0 0 (by have := HZ.out; simp; omega))) rfl rfl rfl r8 rfl (by unfold maxLen; simp))
      go_wp2_with fail
      refine HS.out.mono ?_
      rintro e w15 ⟨rfl, L15, hx, ht⟩
      have H15 := Lib.hid (show EV W w15 L15 1 b (sd8 z T) (3 + T + 3) from hx)
      clear hx ht H14 HS
      have HS := Lib.hid (show Calls Tryz.prog 22 #[.pointer (some ⟨b, 0, none⟩), .agg #[.int .i64 1, .int .i64 1, .int .i64 ((z : Int) + 1), .int .i64 0, .int .i64 0, .slice none 0 0, .bool false, .int .i64 0, .int .i64 0]] w15 _ from H15.out.comeP (by omega) 1 1 ((z : Int) + 1) 0 0 false 0 0 (by have := HZ.out; simp; omega) r9)
      go_wp2_with fail
      refine HS.out.mono ?_
      rintro e w16 ⟨rfl, L16, hx, ht⟩
      have H16 := Lib.hid (show EV W w16 L16 1 b (sd9 z T) (3 + T + 4) from hx)
      clear hx ht H15 HS
      have HS := Lib.hid (show Calls Tryz.prog 19 #[.pointer (some ⟨b, 0, none⟩), .slice (some ⟨w16.heap.size, 0, none⟩) 1 1] (w16.alloc (.cells #[.int .i64 2, .int .i64 1, .int .i64 1, .int .i64 ((z : Int) + 1), .int .i64 0, .slice none 0 0, .bool false, .int .i64 0, .int .i64 0] 32)) _ from H16.out.saidSee (by omega) [⟨⟨2, 1, 1, ((z : Int) + 1), 0, [], false, 0, 0⟩, none, 0⟩] (see1 (See.plain _ _ 2 1 1 ((z : Int) + 1) 0 false 0 0 (by have := HZ.out; simp; omega))) rfl rfl rfl r10 rfl (by unfold maxLen; simp))
      go_wp2_with fail
      refine HS.out.mono ?_
      rintro e w17 ⟨rfl, L17, hx, ht⟩
      have H17 := Lib.hid (show EV W w17 L17 1 b (sd10 z T) (3 + T + 4) from hx)
      clear hx ht H16 HS
      go_wp2_with fail
      refine (H17.out.tick (by omega) 20 r11).mono ?_
      rintro e w18 ⟨rfl, L18, hx, ht⟩
      have H18 := Lib.hid (show EV W w18 L18 1 b (sd11 z T) (3 + T + 5) from hx)
      clear hx ht H17
      go_wp2_with fail
      refine (H18.out.saidLit1 (by omega) 3 1 2 0 0 [97, 98, 99] false 0 0 rfl rfl rfl (by simp) rfl (by decide) (by decide) (by simp) r12).mono ?_
      rintro e w19 ⟨rfl, L19, hx, ht⟩
      have H19 := Lib.hid (show EV W w19 L19 1 b (sd12 z T) (3 + T + 5) from hx)
      clear hx ht H18
      have HF := Lib.hid H19.out.bel
      clear H19
      go_wp2_with fail
      refine (wakes19_any _).mono ?_
      rintro e wz ⟨rfl, hb⟩
      have HFIN := Lib.hid (HF.out.trans (hb.mono HF.out.size))
      clear hb HF
      go_wp2
      go_ret
      exact ⟨rfl, HFIN.out⟩
end Go.Proofs.YtpjlnpnadkbakaaGreat
