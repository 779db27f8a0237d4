/-
  The walk of EndMeters.
-/
import Derived.Test.YtpjlnpnadkbakaaGreatQBPrEvK
import Derived.Test.YtpjlnpnadkbakaaGreatQBZPrSame
import Derived.Deep.CutBlock
import Derived.Deep.DeepCutAuto
import Derived.Lib.SlBytesConst
namespace Go.Proofs.YtpjlnpnadkbakaaGreat
set_option maxRecDepth 10000
open Go.RowKit
noncomputable def em1 (m : Nat) : En := (upE plC).write (([48, 49, 50, 51, 52, 53, 54, 55, 56, 57] : List Int).take m)
noncomputable def em2 (m : Nat) : En := (em1 m).comeC ⟨3, 0, 0, 0, 0, [97, 98, 99], false, 0, 0⟩
noncomputable def em3 (m : Nat) : En := (em2 m).read 2
noncomputable def em4 (m : Nat) : En := (em3 m).comeC ⟨3, 0, 0, 0, 0, [97, 98, 99], false, 0, 0⟩
noncomputable def em5 (m : Nat) : En := (em4 m).comeC ⟨0, 0, 0, 0, 0, [], false, 0, 0⟩
noncomputable def em6 (m : Nat) : En := (em5 m).tick 9
noncomputable def emZB (m : Nat) : Bool := (decide ((upE plC).takes (([48, 49, 50, 51, 52, 53, 54, 55, 56, 57] : List Int).take m) = m)) && ((em1 m).mayC ⟨3, 0, 0, 0, 0, [97, 98, 99], false, 0, 0⟩) && (decide ((em2 m).readN 2 = [97, 98])) && ((em3 m).mayC ⟨3, 0, 0, 0, 0, [97, 98, 99], false, 0, 0⟩) && (!(em4 m).mayC ⟨0, 0, 0, 0, 0, [], false, 0, 0⟩) && ((em5 m).mayT 9) && (decide ((em6 m).meter = [12, 5, 2 * (m : Int), 3, 1, (m : Int), 2, 1])) && (decide ((em6 m).ev.length = 12))
theorem emZA : (List.range 9).all (fun z => emZB (z + 1)) = true := by kernel_rfl
theorem emZ (m : Nat) (h1 : 1 ≤ m) (h2 : m ≤ 9) : (upE plC).takes (([48, 49, 50, 51, 52, 53, 54, 55, 56, 57] : List Int).take m) = m ∧ (em1 m).mayC ⟨3, 0, 0, 0, 0, [97, 98, 99], false, 0, 0⟩ = true ∧ (em2 m).readN 2 = [97, 98] ∧ (em3 m).mayC ⟨3, 0, 0, 0, 0, [97, 98, 99], false, 0, 0⟩ = true ∧ (em4 m).mayC ⟨0, 0, 0, 0, 0, [], false, 0, 0⟩ = false ∧ (em5 m).mayT 9 = true ∧ (em6 m).meter = [12, 5, 2 * (m : Int), 3, 1, (m : Int), 2, 1] ∧ (em6 m).ev.length = 12 := by
  have h := List.all_eq_true.1 emZA (m - 1) (List.mem_range.2 (by omega))
  rw [show m - 1 + 1 = m by omega] at h
  simp only [emZB, Bool.and_eq_true, decide_eq_true_eq, Bool.not_eq_true'] at h
  obtain ⟨⟨⟨⟨⟨⟨⟨h0, h1⟩, h2⟩, h3⟩, h4⟩, h5⟩, h6⟩, h7⟩ := h
  exact ⟨h0, h1, h2, h3, h4, h5, h6, h7⟩
set_option maxHeartbeats 8000000 in
theorem endMeters_walk (n : Int) (W : World) : Calls Tryz.prog 9 #[.int .i64 n] W fun e W' => e = .returned (.bool true) ∧ Below W.heap.size W W' := by
  have HW := Lib.hid (fun w => within_any n 9 w (by omega) (by omega))
  obtain ⟨z, hz⟩ : ∃ z : Int, n % 9 = z := ⟨_, rfl⟩
  obtain ⟨m, hm⟩ : ∃ m : Nat, 1 + z = (m : Int) := ⟨(1 + z).toNat, by omega⟩
  have HM1 := Lib.hid (show 1 ≤ m by omega)
  have HM2 := Lib.hid (show m ≤ 9 by omega)
  have HM4 := Lib.hid (show m = 1 ∨ m = 2 ∨ m = 3 ∨ m = 4 ∨ m = 5 ∨ m = 6 ∨ m = 7 ∨ m = 8 ∨ m = 9 by omega)
  have HB1 := Lib.hid (show wrap64 (1 + z) = (m : Int) ∧ wrap64 (2 * (m : Int)) = 2 * (m : Int) from ⟨by unfold wrap64; omega, by unfold wrap64; omega⟩)
  rw [hz] at HW
  clear hz hm
  obtain ⟨r1, r2, r3, r4, r5, r6, r7, r8⟩ := emZ m HM1.out HM2.out
  have kc := fun (w : World) (C : Array Value) (n c : Nat) => Lib.run_convert_bytes_const (P := Tryz.prog) w 29 5 C n c Tryz.underlying29 Tryz.underlying5
  have hcv := fun (W : World) (s : ByteArray) => Lib.run_convert_string_bytes (P := Tryz.prog) W 9 29 5 s Tryz.underlying9 Tryz.underlying29 Tryz.underlying5
  go_enter Tryz.func9, Tryz.ntmps9
  go_wp2_with fail
  refine (plain_any _).mono ?_
  rintro e w1 ⟨rfl, hb⟩
  have HB := Lib.hid hb
  clear hb
  obtain ⟨u1, u2, u3, u4⟩ := plUp
  have HUP := Lib.hid (up_any (w0 := W) 2 60 50 10 4 3 1 w1 (fun _ => 0) 1 (by omega) HB.out rfl (fun k _ => by unfold Es; omega) u1 u2 u3 u4)
  clear u1 u2 u3 u4
  go_wp2_with fail
  refine HUP.out.mono ?_
  rintro e w2 ⟨b, L2, rfl, hx, -⟩
  have H2 := Lib.hid (show EV W w2 L2 1 b (upE plC) 2 from hx)
  clear hx HUP HB
  go_wp2_with fail
  refine (HW.out _).mono ?_
  rintro e w' ⟨rfl, rfl⟩
  clear HW
  have hw2 := HB1.out.1
  have hw4 := HB1.out.2
  have b3 : (0 : Int) ≤ (m : Int) := by omega
  have b4 : (m : Int) ≤ 10 := by have := HM2.out; omega
  go_wp2_with fail
  refine (H2.out.writeStr (by omega) _ (ys := (([48, 49, 50, 51, 52, 53, 54, 55, 56, 57] : List Int).take m)) (m := min m 10) (by rcases HM4.out with rfl | rfl | rfl | rfl | rfl | rfl | rfl | rfl | rfl <;> kernel_rfl) (by simp) rfl (grownCap_ge _ _ _ _) (by have := HM2.out; omega) r1).mono ?_
  rintro e w3 ⟨rfl, L3, hx, ht⟩
  have H3 := Lib.hid (show EV W w3 L3 1 b (em1 m) 3 from hx)
  clear hx ht H2
  go_wp2_with fail
  refine (H3.out.data 0 0 _ false [97, 98, 99] 3 (by kernel_rfl) rfl (by decide) (by omega)).mono ?_
  rintro e w4 ⟨qa, ca, L4, rfl, hx, hs, ht, hqa⟩
  have H4 := Lib.hid hx
  have Sa := Lib.hid hs
  clear hx hs ht hqa H3
  have HS := Lib.hid (show Calls Tryz.prog 22 #[.pointer (some ⟨b, 0, none⟩), .agg #[.int .i64 3, .int .i64 0, .int .i64 0, .int .i64 0, .int .i64 0, .slice (some ⟨qa, 0, none⟩) 3 ca, .bool false, .int .i64 0, .int .i64 0]] w4 _ from H4.out.comeSee (by omega) ⟨⟨3, 0, 0, 0, 0, [97, 98, 99], false, 0, 0⟩, some ⟨qa, 0, none⟩, ca⟩ Sa.out (by simp) r2)
  go_wp2_with fail
  refine HS.out.mono ?_
  rintro e w5 ⟨rfl, L5, hx, ht⟩
  have H5 := Lib.hid (show EV W w5 L5 1 b (em2 m) 4 from hx)
  clear hx ht H4 HS
  clear Sa
  go_wp2_with fail
  refine (H5.out.read (by omega) 2 (xs := [97, 98]) (m := 2) r3 rfl).mono ?_
  rintro e w6 ⟨A6, c6, L6, rfl, hby, hx, -⟩
  have H6 := Lib.hid (show EV W w6 L6 1 b (em3 m) 5 from hx)
  have HBY := Lib.hid hby
  clear hx hby H5
  go_wp2_with fail
  refine (H6.out.sameLit HBY.out (xs := [97, 98]) rfl rfl rfl (by simp)).mono ?_
  rintro e w7 ⟨rfl, L7, hx, -⟩
  have H7 := Lib.hid hx
  clear hx HBY H6
  go_wp2_with fail
  refine (H7.out.data 0 0 _ false [97, 98, 99] 3 (by kernel_rfl) rfl (by decide) (by omega)).mono ?_
  rintro e w8 ⟨qb, cb, L8, rfl, hx, hs, ht, hqb⟩
  have H8 := Lib.hid hx
  have Sb := Lib.hid hs
  clear hx hs ht hqb H7
  have HS := Lib.hid (show Calls Tryz.prog 22 #[.pointer (some ⟨b, 0, none⟩), .agg #[.int .i64 3, .int .i64 0, .int .i64 0, .int .i64 0, .int .i64 0, .slice (some ⟨qb, 0, none⟩) 3 cb, .bool false, .int .i64 0, .int .i64 0]] w8 _ from H8.out.comeSee (by omega) ⟨⟨3, 0, 0, 0, 0, [97, 98, 99], false, 0, 0⟩, some ⟨qb, 0, none⟩, cb⟩ Sb.out (by simp) r4)
  go_wp2_with fail
  refine HS.out.mono ?_
  rintro e w9 ⟨rfl, L9, hx, ht⟩
  have H9 := Lib.hid (show EV W w9 L9 1 b (em4 m) 6 from hx)
  clear hx ht H8 HS
  clear Sb
  have HS := Lib.hid (show Calls Tryz.prog 22 #[.pointer (some ⟨b, 0, none⟩), .agg #[.int .i64 0, .int .i64 0, .int .i64 0, .int .i64 0, .int .i64 0, .slice none 0 0, .bool false, .int .i64 0, .int .i64 0]] w9 _ from H9.out.comeP (by omega) 0 0 0 0 0 false 0 0 (by decide) r5)
  go_wp2_with fail
  refine HS.out.mono ?_
  rintro e w10 ⟨rfl, L10, hx, ht⟩
  have H10 := Lib.hid (show EV W w10 L10 1 b (em5 m) 7 from hx)
  clear hx ht H9 HS
  go_wp2_with fail
  refine (H10.out.tick (by omega) 9 r6).mono ?_
  rintro e w11 ⟨rfl, L11, hx, ht⟩
  have H11 := Lib.hid (show EV W w11 L11 1 b (em6 m) 8 from hx)
  clear hx ht H10
  go_wp2_with fail
  refine (H11.out.meter (xs := [12, 5, 2 * (m : Int), 3, 1, (m : Int), 2, 1]) r7).mono ?_
  rintro e w12 ⟨g, L12, rfl, hr, -, hx, -⟩
  have H12 := Lib.hid hx
  have HR := Lib.hid hr
  clear hx hr H11
  go_wp2_with fail
  refine (H12.out.sameInts HR.out (xs := [12, 5, 2 * (m : Int), 3, 1, (m : Int), 2, 1]) rfl rfl rfl (by simp) (by simp)).mono ?_
  rintro e w13 ⟨rfl, L13, hx, -⟩
  have H13 := Lib.hid hx
  clear hx HR H12
  go_wp2_with fail
  refine (H13.out.events (by omega) (m := 12) rfl r8).mono ?_
  rintro e w14 ⟨ms, A14, c14, L14, rfl, -, -, hx, -⟩
  have H14 := Lib.hid hx
  clear hx H13
  have HF := Lib.hid H14.out.bel
  clear H14
  go_wp2_with fail
  refine (wakes19_any _).mono ?_
  rintro e wz ⟨rfl, hb⟩
  have HFIN := Lib.hid (HF.out.trans (hb.mono HF.out.size))
  clear hb HF
  go_wp2
  go_ret
  exact ⟨rfl, HFIN.out⟩
end Go.Proofs.YtpjlnpnadkbakaaGreat
