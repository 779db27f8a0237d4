/-
  The walk of EndSends.
-/
import Derived.Test.YtpjlnpnadkbakaaGreatQBPrEvK
import Derived.Deep.CutBlock
import Derived.Deep.DeepCutAuto
import Derived.Lib.SlBytesConst
namespace Go.Proofs.YtpjlnpnadkbakaaGreat
set_option maxRecDepth 10000
open Go.RowKit
noncomputable def se1 : En := (upE plC).write [48, 49, 50, 51, 52, 53, 54, 55, 56, 57, 97, 98, 99, 100, 101, 102, 103, 104, 105, 106, 65, 66, 67, 68, 69]
noncomputable def se2 : En := se1.taken
noncomputable def se3 : En := se2.close
noncomputable def se4 : En := se3.taken
noncomputable def se5 : En := se4.comeC ⟨4, 0, 0, 1, 0, [], false, 10, 50⟩
noncomputable def se6 : En := se5.taken
noncomputable def se7 (z : Nat) : En := se6.comeC ⟨4, 0, 0, 2, 0, [], false, (10 - (z : Int) % 11), (z : Int)⟩
noncomputable def se8 (z : Nat) : En := (se7 z).taken
noncomputable def se9 (z : Nat) : En := (se8 z).comeC ⟨4, 0, 0, 3, 0, [], false, 26, 60⟩
noncomputable def se10 (z : Nat) : En := (se9 z).taken
noncomputable def se11 (z : Nat) : En := (se10 z).comeC ⟨3, 0, 0, 0, 0, [], true, 0, 0⟩
noncomputable def se12 (z : Nat) : En := (se11 z).taken
theorem seF : (upE plC).takes [48, 49, 50, 51, 52, 53, 54, 55, 56, 57, 97, 98, 99, 100, 101, 102, 103, 104, 105, 106, 65, 66, 67, 68, 69] = 25 ∧ (se1).out = [⟨3, 0, 1, 0, 0, [48, 49, 50, 51, 52, 53, 54, 55, 56, 57], false, 0, 0⟩, ⟨3, 0, 2, 0, 10, [97, 98, 99, 100, 101, 102, 103, 104, 105, 106], false, 0, 0⟩] ∧ (!(se2).o.cl) = true ∧ (se3).out = [] ∧ (se4).mayC ⟨4, 0, 0, 1, 0, [], false, 10, 50⟩ = true ∧ (se5).out = [⟨3, 0, 3, 0, 20, [65, 66, 67, 68, 69], true, 0, 0⟩] ∧ (se6).done = false := by
  refine ⟨?_, ?_, ?_, ?_, ?_, ?_, ?_⟩ <;> kernel_rfl
noncomputable def seZB (z : Nat) : Bool := ((se6).mayC ⟨4, 0, 0, 2, 0, [], false, (10 - (z : Int) % 11), (z : Int)⟩) && (decide ((se7 z).out = [])) && ((se8 z).mayC ⟨4, 0, 0, 3, 0, [], false, 26, 60⟩) && (decide ((se9 z).out = [])) && (!(se10 z).done) && ((se10 z).mayC ⟨3, 0, 0, 0, 0, [], true, 0, 0⟩) && (decide ((se11 z).out = [⟨4, 0, 4, 0, 0, [], false, 1, 50⟩])) && ((se12 z).done)
theorem seZA : (List.range 20).all (fun z => seZB z) = true := by kernel_rfl
theorem seZ (z : Nat) (h1 : z < 20) : (se6).mayC ⟨4, 0, 0, 2, 0, [], false, (10 - (z : Int) % 11), (z : Int)⟩ = true ∧ (se7 z).out = [] ∧ (se8 z).mayC ⟨4, 0, 0, 3, 0, [], false, 26, 60⟩ = true ∧ (se9 z).out = [] ∧ (se10 z).done = false ∧ (se10 z).mayC ⟨3, 0, 0, 0, 0, [], true, 0, 0⟩ = true ∧ (se11 z).out = [⟨4, 0, 4, 0, 0, [], false, 1, 50⟩] ∧ (se12 z).done = true := by
  have h := List.all_eq_true.1 seZA z (List.mem_range.2 h1)
  simp only [seZB, Bool.and_eq_true, decide_eq_true_eq, Bool.not_eq_true'] at h
  obtain ⟨⟨⟨⟨⟨⟨⟨h0, h1⟩, h2⟩, h3⟩, h4⟩, h5⟩, h6⟩, h7⟩ := h
  exact ⟨h0, h1, h2, h3, h4, h5, h6, h7⟩
set_option maxHeartbeats 8000000 in
theorem endSends_walk (n : Int) (W : World) : Calls Tryz.prog 3 #[.int .i64 n] W fun e W' => e = .returned (.bool true) ∧ Below W.heap.size W W' := by
  obtain ⟨r1, r2, r3, r4, r5, r6, r7⟩ := seF
  have HW := Lib.hid (fun w => within_any n 20 w (by omega) (by omega))
  obtain ⟨z, hz⟩ : ∃ z : Nat, n % 20 = (z : Int) := ⟨(n % 20).toNat, by omega⟩
  have hz20 : z < 20 := by omega
  rw [hz] at HW
  obtain ⟨r8, r9, r10, r11, r12, r13, r14, r15⟩ := seZ z hz20
  have HZ := Lib.hid hz20
  clear hz hz20
  have kc := fun (w : World) (C : Array Value) (n c : Nat) => Lib.run_convert_bytes_const (P := Tryz.prog) w 29 5 C n c Tryz.underlying29 Tryz.underlying5
  go_enter Tryz.func3, Tryz.ntmps3
  go_wp2_with fail
  refine (plain_any _).mono ?_
  rintro e w1 ⟨rfl, hb⟩
  have HB := Lib.hid hb
  clear hb
  obtain ⟨u1, u2, u3, u4⟩ := plUp
  have HUP := Lib.hid (up_any (w0 := W) 2 60 50 10 4 3 1 w1 (fun _ => 0) 1 (by omega) HB.out rfl (fun k _ => by unfold Es; omega) u1 u2 u3 u4)
  clear u1 u2 u3 u4
  go_wp2_with fail
  refine HUP.out.mono ?_
  rintro e w2 ⟨b, L2, rfl, hx, -⟩
  have H2 := Lib.hid (show EV W w2 L2 1 b (upE plC) 2 from hx)
  clear hx HUP HB
  go_wp2_with fail
  refine (H2.out.writeLit (by omega) (m := 25) (ys := [48, 49, 50, 51, 52, 53, 54, 55, 56, 57, 97, 98, 99, 100, 101, 102, 103, 104, 105, 106, 65, 66, 67, 68, 69]) rfl rfl rfl (by omega) (by decide) r1).mono ?_
  rintro e w3 ⟨rfl, L3, hx, ht⟩
  have H3 := Lib.hid (show EV W w3 L3 1 b se1 3 from hx)
  clear hx ht H2
  go_wp2_with fail
  refine (H3.out.data 1 0 _ false [48, 49, 50, 51, 52, 53, 54, 55, 56, 57] 10 (by kernel_rfl) rfl (by decide) (by omega)).mono ?_
  rintro e w4 ⟨qa, ca, L4, rfl, hx, hs, ht, hqa⟩
  have H4 := Lib.hid hx
  have Sa := Lib.hid hs
  clear hx hs ht hqa H3
  go_wp2_with fail
  refine (H4.out.data 2 10 _ false [97, 98, 99, 100, 101, 102, 103, 104, 105, 106] 10 (by kernel_rfl) rfl (by decide) (by omega)).mono ?_
  rintro e w5 ⟨qb, cb, L5, rfl, hx, hs, ht, hqb⟩
  have H5 := Lib.hid hx
  have Sa := Lib.hid (Sa.out.keep ht id)
  have Sb := Lib.hid hs
  clear hx hs ht hqb H4
  have HS := Lib.hid (show Calls Tryz.prog 19 #[.pointer (some ⟨b, 0, none⟩), .slice (some ⟨w5.heap.size, 0, none⟩) 2 2] (w5.alloc (.cells #[.int .i64 3, .int .i64 0, .int .i64 1, .int .i64 0, .int .i64 0, .slice (some ⟨qa, 0, none⟩) 10 ca, .bool false, .int .i64 0, .int .i64 0, .int .i64 3, .int .i64 0, .int .i64 2, .int .i64 0, .int .i64 10, .slice (some ⟨qb, 0, none⟩) 10 cb, .bool false, .int .i64 0, .int .i64 0] 32)) _ from H5.out.saidSee (by omega) [⟨⟨3, 0, 1, 0, 0, [48, 49, 50, 51, 52, 53, 54, 55, 56, 57], false, 0, 0⟩, some ⟨qa, 0, none⟩, ca⟩, ⟨⟨3, 0, 2, 0, 10, [97, 98, 99, 100, 101, 102, 103, 104, 105, 106], false, 0, 0⟩, some ⟨qb, 0, none⟩, cb⟩] (seeC Sa.out (see1 Sb.out)) rfl rfl rfl r2 rfl (by unfold maxLen; simp))
  go_wp2_with fail
  refine HS.out.mono ?_
  rintro e w6 ⟨rfl, L6, hx, ht⟩
  have H6 := Lib.hid (show EV W w6 L6 1 b se2 3 from hx)
  clear hx ht H5 HS
  clear Sa Sb
  go_wp2_with fail
  refine (H6.out.close (by omega) r3).mono ?_
  rintro e w7 ⟨rfl, L7, hx, ht⟩
  have H7 := Lib.hid (show EV W w7 L7 1 b se3 4 from hx)
  clear hx ht H6
  go_wp2_with fail
  refine (H7.out.saidNo (by omega) r4).mono ?_
  rintro e w8 ⟨rfl, L8, hx, ht⟩
  have H8 := Lib.hid (show EV W w8 L8 1 b se4 4 from hx)
  clear hx ht H7
  go_wp2_with fail
  refine (lack_any 1 10 50 _).mono ?_
  rintro e w9 ⟨rfl, hb⟩
  have H9 := Lib.hid (H8.out.later hb)
  clear hb H8
  have HS := Lib.hid (show Calls Tryz.prog 22 #[.pointer (some ⟨b, 0, none⟩), .agg #[.int .i64 4, .int .i64 0, .int .i64 0, .int .i64 1, .int .i64 0, .slice none 0 0, .bool false, .int .i64 10, .int .i64 50]] w9 _ from H9.out.comeP (by omega) 4 0 0 1 0 false 10 50 (by decide) r5)
  go_wp2_with fail
  refine HS.out.mono ?_
  rintro e w10 ⟨rfl, L10, hx, ht⟩
  have H10 := Lib.hid (show EV W w10 L10 1 b se5 5 from hx)
  clear hx ht H9 HS
  go_wp2_with fail
  refine (H10.out.data 3 20 _ true [65, 66, 67, 68, 69] 5 (by kernel_rfl) rfl (by decide) (by omega)).mono ?_
  rintro e w11 ⟨qc, cc, L11, rfl, hx, hs, ht, hqc⟩
  have H11 := Lib.hid hx
  have Sc := Lib.hid hs
  clear hx hs ht hqc H10
  have HS := Lib.hid (show Calls Tryz.prog 19 #[.pointer (some ⟨b, 0, none⟩), .slice (some ⟨w11.heap.size, 0, none⟩) 1 1] (w11.alloc (.cells #[.int .i64 3, .int .i64 0, .int .i64 3, .int .i64 0, .int .i64 20, .slice (some ⟨qc, 0, none⟩) 5 cc, .bool true, .int .i64 0, .int .i64 0] 32)) _ from H11.out.saidSee (by omega) [⟨⟨3, 0, 3, 0, 20, [65, 66, 67, 68, 69], true, 0, 0⟩, some ⟨qc, 0, none⟩, cc⟩] (see1 Sc.out) rfl rfl rfl r6 rfl (by unfold maxLen; simp))
  go_wp2_with fail
  refine HS.out.mono ?_
  rintro e w12 ⟨rfl, L12, hx, ht⟩
  have H12 := Lib.hid (show EV W w12 L12 1 b se6 5 from hx)
  clear hx ht H11 HS
  clear Sc
  go_wp2_with fail
  refine (H12.out.done r7).mono ?_
  rintro e w13 ⟨rfl, L13, hx, ht⟩
  have H13 := Lib.hid (show EV W w13 L13 1 b se6 5 from hx)
  clear hx ht H12
  go_wp2_with fail
  refine (HW.out _).mono ?_
  rintro e w' ⟨rfl, rfl⟩
  clear HW
  go_wp2_with fail
  refine (lack_any 2 (10 - (z : Int) % 11) (z : Int) _).mono ?_
  rintro e w14 ⟨rfl, hb⟩
  have H14 := Lib.hid (H13.out.later hb)
  clear hb H13
  have HS := Lib.hid (show Calls Tryz.prog 22 #[.pointer (some ⟨b, 0, none⟩), .agg #[.int .i64 4, .int .i64 0, .int .i64 0, .int .i64 2, .int .i64 0, .slice none 0 0, .bool false, .int .i64 (10 - (z : Int) % 11), .int .i64 (z : Int)]] w14 _ from H14.out.comeP (by omega) 4 0 0 2 0 false (10 - (z : Int) % 11) (z : Int) (by have := HZ.out; simp; omega) r8)
  go_wp2_with fail
  refine HS.out.mono ?_
  rintro e w15 ⟨rfl, L15, hx, ht⟩
  have H15 := Lib.hid (show EV W w15 L15 1 b (se7 z) 6 from hx)
  clear hx ht H14 HS
  go_wp2_with fail
  refine (H15.out.saidNo (by omega) r9).mono ?_
  rintro e w16 ⟨rfl, L16, hx, ht⟩
  have H16 := Lib.hid (show EV W w16 L16 1 b (se8 z) 6 from hx)
  clear hx ht H15
  go_wp2_with fail
  refine (lack_any 3 26 60 _).mono ?_
  rintro e w17 ⟨rfl, hb⟩
  have H17 := Lib.hid (H16.out.later hb)
  clear hb H16
  have HS := Lib.hid (show Calls Tryz.prog 22 #[.pointer (some ⟨b, 0, none⟩), .agg #[.int .i64 4, .int .i64 0, .int .i64 0, .int .i64 3, .int .i64 0, .slice none 0 0, .bool false, .int .i64 26, .int .i64 60]] w17 _ from H17.out.comeP (by omega) 4 0 0 3 0 false 26 60 (by decide) r10)
  go_wp2_with fail
  refine HS.out.mono ?_
  rintro e w18 ⟨rfl, L18, hx, ht⟩
  have H18 := Lib.hid (show EV W w18 L18 1 b (se9 z) 7 from hx)
  clear hx ht H17 HS
  go_wp2_with fail
  refine (H18.out.saidNo (by omega) r11).mono ?_
  rintro e w19 ⟨rfl, L19, hx, ht⟩
  have H19 := Lib.hid (show EV W w19 L19 1 b (se10 z) 7 from hx)
  clear hx ht H18
  go_wp2_with fail
  refine (H19.out.done r12).mono ?_
  rintro e w20 ⟨rfl, L20, hx, ht⟩
  have H20 := Lib.hid (show EV W w20 L20 1 b (se10 z) 7 from hx)
  clear hx ht H19
  go_wp2_with fail
  refine (H20.out.data 0 0 _ true [] 0 (by kernel_rfl) rfl (by decide) (by omega)).mono ?_
  rintro e w21 ⟨qd, cd, L21, rfl, hx, hs, ht, hqd⟩
  have H21 := Lib.hid hx
  have Sd := Lib.hid hs
  clear hx hs ht hqd H20
  have HS := Lib.hid (show Calls Tryz.prog 22 #[.pointer (some ⟨b, 0, none⟩), .agg #[.int .i64 3, .int .i64 0, .int .i64 0, .int .i64 0, .int .i64 0, .slice (some ⟨qd, 0, none⟩) 0 cd, .bool true, .int .i64 0, .int .i64 0]] w21 _ from H21.out.comeSee (by omega) ⟨⟨3, 0, 0, 0, 0, [], true, 0, 0⟩, some ⟨qd, 0, none⟩, cd⟩ Sd.out (by simp) r13)
  go_wp2_with fail
  refine HS.out.mono ?_
  rintro e w22 ⟨rfl, L22, hx, ht⟩
  have H22 := Lib.hid (show EV W w22 L22 1 b (se11 z) 8 from hx)
  clear hx ht H21 HS
  clear Sd
  have HS := Lib.hid (show Calls Tryz.prog 19 #[.pointer (some ⟨b, 0, none⟩), .slice (some ⟨w22.heap.size, 0, none⟩) 1 1] (w22.alloc (.cells #[.int .i64 4, .int .i64 0, .int .i64 4, .int .i64 0, .int .i64 0, .slice none 0 0, .bool false, .int .i64 1, .int .i64 50] 32)) _ from H22.out.saidSee (by omega) [⟨⟨4, 0, 4, 0, 0, [], false, 1, 50⟩, none, 0⟩] (see1 (See.plain _ _ 4 0 4 0 0 false 1 50 (by decide))) rfl rfl rfl r14 rfl (by unfold maxLen; simp))
  go_wp2_with fail
  refine HS.out.mono ?_
  rintro e w23 ⟨rfl, L23, hx, ht⟩
  have H23 := Lib.hid (show EV W w23 L23 1 b (se12 z) 8 from hx)
  clear hx ht H22 HS
  go_wp2_with fail
  refine (H23.out.done r15).mono ?_
  rintro e w24 ⟨rfl, L24, hx, ht⟩
  have H24 := Lib.hid (show EV W w24 L24 1 b (se12 z) 8 from hx)
  clear hx ht H23
  have HF := Lib.hid H24.out.bel
  clear H24
  go_wp2_with fail
  refine (wakes19_any _).mono ?_
  rintro e wz ⟨rfl, hb⟩
  have HFIN := Lib.hid (HF.out.trans (hb.mono HF.out.size))
  clear hb HF
  go_wp2
  go_ret
  exact ⟨rfl, HFIN.out⟩
end Go.Proofs.YtpjlnpnadkbakaaGreat
