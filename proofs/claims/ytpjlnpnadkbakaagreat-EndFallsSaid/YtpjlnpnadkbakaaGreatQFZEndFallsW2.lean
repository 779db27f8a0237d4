/-
  EndFalls, part 2.
-/
import Derived.Test.YtpjlnpnadkbakaaGreatQFPrEvK
import Derived.Test.YtpjlnpnadkbakaaGreatQFZEndFallsF
import Derived.Test.YtpjlnpnadkbakaaGreatQFMem
import Derived.Deep.CutBlock
import Derived.Deep.DeepCutAuto
import Derived.Lib.SlBytesConst
namespace Go.Proofs.YtpjlnpnadkbakaaGreat
set_option maxRecDepth 10000
open Go.RowKit
noncomputable def ef6_7 : En := ef6.comeC ⟨4, 0, 0, 0, 0, [], false, 6, 50⟩
noncomputable def ef6_8 : En := ef6_7.taken
theorem ef6F : (ef6).mayC ⟨4, 0, 0, 0, 0, [], false, 6, 50⟩ = true ∧ (ef6_7).out = [] ∧ (ef6_8).mayD 0 = true ∧ ((ef6_8).down 0).out = [⟨3, 1, 1, 0, 6, [54, 55, 56, 57, 97, 98, 99, 100, 101, 102], false, 0, 0⟩, ⟨3, 1, 2, 0, 16, [103, 104, 105, 106], false, 0, 0⟩] := by
  refine ⟨?_, ?_, ?_, ?_⟩ <;> kernel_rfl
set_option maxHeartbeats 8000000 in
theorem endFalls_6 (n : Int) (hz : n % 11 = 6) (W : World) : Calls Tryz.prog 8 #[.int .i64 n] W fun e W' => e = .returned (.bool true) ∧ Below W.heap.size W W' := by
  obtain ⟨r1, r2, r3, r4, r5, r6⟩ := efF
  obtain ⟨r7, r8, r9, r10⟩ := ef6F
  have HW := Lib.hid (fun w => within_any n 11 w (by omega) (by omega))
  rw [hz] at HW
  clear hz
  have kc := fun (w : World) (C : Array Value) (n c : Nat) => Lib.run_convert_bytes_const (P := Tryz.prog) w 29 5 C n c Tryz.underlying29 Tryz.underlying5
  have hcv := fun (W : World) (s : ByteArray) => Lib.run_convert_string_bytes (P := Tryz.prog) W 9 29 5 s Tryz.underlying9 Tryz.underlying29 Tryz.underlying5
  go_enter Tryz.func8, Tryz.ntmps8
  go_wp2_with fail
  refine (plain_any _).mono ?_
  rintro e w1 ⟨rfl, hb⟩
  have HB := Lib.hid hb
  clear hb
  obtain ⟨u1, u2, u3, u4⟩ := plUp
  have HUP := Lib.hid (up_any (w0 := W) 2 60 50 10 4 3 1 w1 (fun _ => 0) 1 (by omega) HB.out rfl (fun k _ => by unfold Es; omega) u1 u2 u3 u4)
  clear u1 u2 u3 u4
  go_wp2_with fail
  refine HUP.out.mono ?_
  rintro e w2 ⟨b, L2, rfl, hx, -⟩
  have H2 := Lib.hid (show EV W w2 L2 1 b (upE plC) 2 from hx)
  clear hx HUP HB
  go_wp2_with fail
  refine (H2.out.up (by omega) 1 r1).mono ?_
  rintro e w3 ⟨rfl, L3, hx, ht⟩
  have H3 := Lib.hid (show EV W w3 L3 1 b ef1 3 from hx)
  clear hx ht H2
  have HS := Lib.hid (show Calls Tryz.prog 19 #[.pointer (some ⟨b, 0, none⟩), .slice (some ⟨w3.heap.size, 0, none⟩) 1 1] (w3.alloc (.cells #[.int .i64 1, .int .i64 1, .int .i64 0, .int .i64 0, .int .i64 0, .slice none 0 0, .bool false, .int .i64 0, .int .i64 0] 32)) _ from H3.out.saidSee (by omega) [⟨⟨1, 1, 0, 0, 0, [], false, 0, 0⟩, none, 0⟩] (see1 (See.plain _ _ 1 1 0 0 0 false 0 0 (by decide))) rfl rfl rfl r2 rfl (by unfold maxLen; simp))
  go_wp2_with fail
  refine HS.out.mono ?_
  rintro e w4 ⟨rfl, L4, hx, ht⟩
  have H4 := Lib.hid (show EV W w4 L4 1 b ef2 3 from hx)
  clear hx ht H3 HS
  go_wp2_with fail
  refine (H4.out.writeLit (by omega) (m := 20) (ys := [48, 49, 50, 51, 52, 53, 54, 55, 56, 57, 97, 98, 99, 100, 101, 102, 103, 104, 105, 106]) rfl rfl rfl (by omega) (by decide) r3).mono ?_
  rintro e w5 ⟨rfl, L5, hx, ht⟩
  have H5 := Lib.hid (show EV W w5 L5 1 b ef3 4 from hx)
  clear hx ht H4
  go_wp2_with fail
  refine (H5.out.data 1 0 _ false [48, 49, 50, 51, 52, 53, 54, 55, 56, 57] 10 (by kernel_rfl) rfl (by decide) (by omega)).mono ?_
  rintro e w6 ⟨qa, ca, L6, rfl, hx, hs, ht, hqa⟩
  have H6 := Lib.hid hx
  have Sa := Lib.hid hs
  clear hx hs ht hqa H5
  go_wp2_with fail
  refine (H6.out.data 2 10 _ false [97, 98, 99, 100, 101, 102, 103, 104, 105, 106] 10 (by kernel_rfl) rfl (by decide) (by omega)).mono ?_
  rintro e w7 ⟨qb, cb, L7, rfl, hx, hs, ht, hqb⟩
  have H7 := Lib.hid hx
  have Sa := Lib.hid (Sa.out.keep ht id)
  have Sb := Lib.hid hs
  clear hx hs ht hqb H6
  have HS := Lib.hid (show Calls Tryz.prog 19 #[.pointer (some ⟨b, 0, none⟩), .slice (some ⟨w7.heap.size, 0, none⟩) 2 2] (w7.alloc (.cells #[.int .i64 3, .int .i64 0, .int .i64 1, .int .i64 0, .int .i64 0, .slice (some ⟨qa, 0, none⟩) 10 ca, .bool false, .int .i64 0, .int .i64 0, .int .i64 3, .int .i64 0, .int .i64 2, .int .i64 0, .int .i64 10, .slice (some ⟨qb, 0, none⟩) 10 cb, .bool false, .int .i64 0, .int .i64 0] 32)) _ from H7.out.saidSee (by omega) [⟨⟨3, 0, 1, 0, 0, [48, 49, 50, 51, 52, 53, 54, 55, 56, 57], false, 0, 0⟩, some ⟨qa, 0, none⟩, ca⟩, ⟨⟨3, 0, 2, 0, 10, [97, 98, 99, 100, 101, 102, 103, 104, 105, 106], false, 0, 0⟩, some ⟨qb, 0, none⟩, cb⟩] (seeC Sa.out (see1 Sb.out)) rfl rfl rfl r4 rfl (by unfold maxLen; simp))
  go_wp2_with fail
  refine HS.out.mono ?_
  rintro e w8 ⟨rfl, L8, hx, ht⟩
  have H8 := Lib.hid (show EV W w8 L8 1 b ef4 4 from hx)
  clear hx ht H7 HS
  clear Sa Sb
  have HS := Lib.hid (show Calls Tryz.prog 22 #[.pointer (some ⟨b, 0, none⟩), .agg #[.int .i64 2, .int .i64 1, .int .i64 0, .int .i64 0, .int .i64 0, .slice none 0 0, .bool false, .int .i64 0, .int .i64 0]] w8 _ from H8.out.comeP (by omega) 2 1 0 0 0 false 0 0 (by decide) r5)
  go_wp2_with fail
  refine HS.out.mono ?_
  rintro e w9 ⟨rfl, L9, hx, ht⟩
  have H9 := Lib.hid (show EV W w9 L9 1 b ef5 5 from hx)
  clear hx ht H8 HS
  go_wp2_with fail
  refine (H9.out.saidNo (by omega) r6).mono ?_
  rintro e w10 ⟨rfl, L10, hx, ht⟩
  have H10 := Lib.hid (show EV W w10 L10 1 b ef6 5 from hx)
  clear hx ht H9
  go_wp2_with fail
  refine (HW.out _).mono ?_
  rintro e w' ⟨rfl, rfl⟩
  clear HW
  go_wp2_with fail
  refine (lack_any 0 6 50 _).mono ?_
  rintro e w11 ⟨rfl, hb⟩
  have H11 := Lib.hid (H10.out.later hb)
  clear hb H10
  have HS := Lib.hid (show Calls Tryz.prog 22 #[.pointer (some ⟨b, 0, none⟩), .agg #[.int .i64 4, .int .i64 0, .int .i64 0, .int .i64 0, .int .i64 0, .slice none 0 0, .bool false, .int .i64 6, .int .i64 50]] w11 _ from H11.out.comeP (by omega) 4 0 0 0 0 false 6 50 (by decide) r7)
  go_wp2_with fail
  refine HS.out.mono ?_
  rintro e w12 ⟨rfl, L12, hx, ht⟩
  have H12 := Lib.hid (show EV W w12 L12 1 b ef6_7 6 from hx)
  clear hx ht H11 HS
  go_wp2_with fail
  refine (H12.out.saidNo (by omega) r8).mono ?_
  rintro e w13 ⟨rfl, L13, hx, ht⟩
  have H13 := Lib.hid (show EV W w13 L13 1 b ef6_8 6 from hx)
  clear hx ht H12
  go_wp2_with fail
  refine (H13.out.data 1 6 _ false [54, 55, 56, 57] 4 (by kernel_rfl) rfl (by decide) (by omega)).mono ?_
  rintro e w14 ⟨qa, ca, L14, rfl, hx, hs, ht, hqa⟩
  have H14 := Lib.hid hx
  have Sa := Lib.hid hs
  clear hx hs ht hqa H13
  go_wp2_with fail
  refine (H14.out.data 2 10 _ false [97, 98, 99, 100, 101, 102, 103, 104, 105, 106] 10 (by kernel_rfl) rfl (by decide) (by omega)).mono ?_
  rintro e w15 ⟨qb, cb, L15, rfl, hx, hs, ht, hqb⟩
  have H15 := Lib.hid hx
  have Sa := Lib.hid (Sa.out.keep ht id)
  have Sb := Lib.hid hs
  clear hx hs ht hqb H14
  obtain ⟨J, hJ17, hJ⟩ := lab_over L15 w15.heap.size
  obtain ⟨hf, ht⟩ := FV.new9 H15.out J hJ17 hJ
  have hs : FS W _ _ b ef6_8 6 J _ _ _ _ _ _ _ ⟨⟨3, 0, 1, 0, 6, [54, 55, 56, 57], false, 0, 0⟩, some ⟨qa, 0, none⟩, ca⟩ ⟨⟨3, 0, 2, 0, 10, [97, 98, 99, 100, 101, 102, 103, 104, 105, 106], false, 0, 0⟩, some ⟨qb, 0, none⟩, cb⟩ := ⟨hf, Sa.out.keep ht id, Sb.out.keep ht id⟩
  obtain ⟨q, hq⟩ : ∃ q, w15.heap.size = q := ⟨_, rfl⟩
  obtain ⟨L0, hL0⟩ : ∃ L0, relab L15 w15.heap.size J = L0 := ⟨_, rfl⟩
  rw [hL0] at hs
  obtain ⟨v0, hv0⟩ : ∃ v0, (w15.alloc (.cells z9P 32)).alloc (.cells z9P 32) = v0 := ⟨_, rfl⟩
  rw [hv0, hq] at hs
  have fz1 := hs.fv.v1.fr
  have fz2 := hs.fv.v2.fr
  obtain ⟨x0, x1, x2, x3, x4, x5, x6, x7, x8⟩ := hs.fv.v1.cells
  obtain ⟨y0, y1, y2, y3, y4, y5, y6, y7, y8⟩ := hs.fv.v2.cells
  simp only [Pkt.zero, List.length_nil] at x0 x1 x2 x3 x4 x5 x6 x7 x8 y0 y1 y2 y3 y4 y5 y6 y7 y8
  have HS := Lib.hid hs
  clear hf ht hs hJ17 hJ hL0 Sa Sb H15
  go_upto_region 8 with (fail)
  change Code.wp _ _ _ _ ((v0.setCells q 0 (Pkt.cs ⟨3, 0, 1, 0, 6, [54, 55, 56, 57], false, 0, 0⟩ (some ⟨qa, 0, none⟩) ca)).setCells (q + 1) 0 (Pkt.cs ⟨3, 0, 2, 0, 10, [97, 98, 99, 100, 101, 102, 103, 104, 105, 106], false, 0, 0⟩ (some ⟨qb, 0, none⟩) cb))
  obtain ⟨L1, h1⟩ := HS.out.put1 (setCells_one q (Pkt.cs ⟨3, 0, 1, 0, 6, [54, 55, 56, 57], false, 0, 0⟩ (some ⟨qa, 0, none⟩) ca) 0 v0) (HS.out.fv.v1.all ⟨3, 0, 1, 0, 6, [54, 55, 56, 57], false, 0, 0⟩ (some ⟨qa, 0, none⟩) ca)
  obtain ⟨L2, h2⟩ := h1.put2 (setCells_one (q + 1) (Pkt.cs ⟨3, 0, 2, 0, 10, [97, 98, 99, 100, 101, 102, 103, 104, 105, 106], false, 0, 0⟩ (some ⟨qb, 0, none⟩) cb) 0 _) (h1.fv.v2.all ⟨3, 0, 2, 0, 10, [97, 98, 99, 100, 101, 102, 103, 104, 105, 106], false, 0, 0⟩ (some ⟨qb, 0, none⟩) cb)
  clear x0 x1 x2 x3 x4 x5 x6 x7 x8 y0 y1 y2 y3 y4 y5 y6 y7 y8 fz1 fz2 h1 hv0 hq
  obtain ⟨v1, hv1⟩ : ∃ v1, (v0.setCells q 0 (Pkt.cs ⟨3, 0, 1, 0, 6, [54, 55, 56, 57], false, 0, 0⟩ (some ⟨qa, 0, none⟩) ca)).setCells (q + 1) 0 (Pkt.cs ⟨3, 0, 2, 0, 10, [97, 98, 99, 100, 101, 102, 103, 104, 105, 106], false, 0, 0⟩ (some ⟨qb, 0, none⟩) cb) = v1 := ⟨_, rfl⟩
  rw [hv1] at h2 ⊢
  have fz1 := h2.fv.v1.fr
  have fz2 := h2.fv.v2.fr
  have x1 := h2.fv.v1.cells.c1
  have y1 := h2.fv.v2.cells.c1
  simp only at x1 y1
  have HS := Lib.hid h2
  clear h2 hv1
  go_upto_region 9 with (fail)
  change Code.wp _ _ _ _ ((v1.setCell ⟨q, 1, none⟩ (.int .i64 1)).setCell ⟨q + 1, 1, none⟩ (.int .i64 1))
  obtain ⟨L3, h3⟩ := HS.out.put1 (p1' := ⟨3, 1, 1, 0, 6, [54, 55, 56, 57], false, 0, 0⟩) (setCell_one _ q 1 (.int .i64 1)) (HS.out.fv.v1.pa 1)
  obtain ⟨L4, h4⟩ := h3.put2 (p2' := ⟨3, 1, 2, 0, 10, [97, 98, 99, 100, 101, 102, 103, 104, 105, 106], false, 0, 0⟩) (setCell_one _ (q + 1) 1 (.int .i64 1)) (h3.fv.v2.pa 1)
  obtain ⟨v2, hv2⟩ : ∃ v2, (v1.setCell ⟨q, 1, none⟩ (.int .i64 1)).setCell ⟨q + 1, 1, none⟩ (.int .i64 1) = v2 := ⟨_, rfl⟩
  rw [hv2] at h4 ⊢
  have HS := Lib.hid h4
  clear h3 h4 hv2 fz1 fz2 x1 y1
  have xs5 := fun s => (HS.out.fv.v1.later (below_bytesWorld v2 5 s)).cells.c5
  have fzs := fun s => (HS.out.fv.v1.later (below_bytesWorld v2 5 s)).fr
  simp only at xs5
  go_upto_region 14 with (fail)
  change Code.wp _ _ _ _ ((Lib.bytesWorld v2 5 (efS.extract 6 16)).setCell ⟨q, 5, none⟩ (.slice (some ⟨v2.heap.size, 0, none⟩) 10 (grownCap v2 10 0 5)))
  have h5 := (HS.out.later (below_bytesWorld v2 5 (efS.extract 6 16))).see1 (See.str v2 L4 (efS.extract 6 16) [54, 55, 56, 57, 97, 98, 99, 100, 101, 102] (by kernel_rfl) 1 1 6 (grownCap v2 10 0 5) (grownCap_ge _ _ _ _) (by decide) (by decide))
  obtain ⟨L5, h6⟩ := h5.put1 (p1' := ⟨3, 1, 1, 0, 6, [54, 55, 56, 57, 97, 98, 99, 100, 101, 102], false, 0, 0⟩) (A1' := some ⟨v2.heap.size, 0, none⟩) (c1' := grownCap v2 10 0 5) (setCell_one _ q 5 (.slice (some ⟨v2.heap.size, 0, none⟩) 10 (grownCap v2 10 0 5))) (h5.fv.v1.dat [54, 55, 56, 57, 97, 98, 99, 100, 101, 102] (some ⟨v2.heap.size, 0, none⟩) (grownCap v2 10 0 5))
  obtain ⟨v3, hv3⟩ : ∃ v3, (Lib.bytesWorld v2 5 (efS.extract 6 16)).setCell ⟨q, 5, none⟩ (.slice (some ⟨v2.heap.size, 0, none⟩) 10 (grownCap v2 10 0 5)) = v3 := ⟨_, rfl⟩
  rw [hv3] at h6 ⊢
  obtain ⟨g1, hg1⟩ : ∃ g, v2.heap.size = g := ⟨_, rfl⟩
  obtain ⟨k1, hk1⟩ : ∃ k, grownCap v2 10 0 5 = k := ⟨_, rfl⟩
  rw [hg1, hk1] at h6 ⊢
  clear hv3 hg1 hk1 h5 xs5 fzs HS
  refine wp_region_held_drew (S := fun _ => True) (by kernel_rfl) trivial ?_
  intro hHeld
  obtain ⟨v4, hv4⟩ : ∃ v4, v3.drew = v4 := ⟨_, rfl⟩
  obtain ⟨L6, HS⟩ : ∃ L6, Hid (FS W v4 L6 b ef6_8 6 J q ⟨3, 1, 1, 0, 6, [54, 55, 56, 57, 97, 98, 99, 100, 101, 102], false, 0, 0⟩ (some ⟨g1, 0, none⟩) k1 ⟨3, 1, 2, 0, 10, [97, 98, 99, 100, 101, 102, 103, 104, 105, 106], false, 0, 0⟩ (some ⟨qb, 0, none⟩) cb ⟨⟨3, 1, 1, 0, 6, [54, 55, 56, 57, 97, 98, 99, 100, 101, 102], false, 0, 0⟩, some ⟨g1, 0, none⟩, k1⟩ _) := ⟨_, Lib.hid (by rw [← hv4]; exact h6.later (Below.refl _ _).drew)⟩
  rw [hv4]
  clear hv4 h6
  have hwr : IntKind.i64.wrap 16 = 16 := by decide
  refine tkH 0 ?_
  refine tkH 1 ?_
  refine tkH 2 ?_
  refine tkH 3 ?_
  refine tkH 4 ?_
  refine tkH 6 ?_
  clear hwr
  refine wpAnyH_ready (rs := [5, 7]) (by kernel_rfl) (by simp) ?_
  refine AllReadyH.cons rfl (fun K2 hK2 => ?_) (AllReadyH.cons rfl (fun K2 hK2 => ?_) AllReadyH.nil)
  · go_simp
    have h9 := (HS.out.later (below_bytesWorld v4 5 (efS.extract 16 20))).see2 (See.str v4 L6 (efS.extract 16 20) [103, 104, 105, 106] (by kernel_rfl) 1 2 16 (grownCap v4 4 0 5) (grownCap_ge _ _ _ _) (by decide) (by decide))
    obtain ⟨u5, hu⟩ : ∃ u, Lib.bytesWorld v4 5 (efS.extract 16 20) = u := ⟨_, rfl⟩
    obtain ⟨g2, hg2⟩ : ∃ g, v4.heap.size = g := ⟨_, rfl⟩
    obtain ⟨k2, hk2⟩ : ∃ k, grownCap v4 4 0 5 = k := ⟨_, rfl⟩
    rw [hu, hg2, hk2] at h9
    rw [hu, hg2, hk2]
    obtain ⟨M5, hM⟩ : ∃ l, relab L6 g2 0 = l := ⟨_, rfl⟩
    rw [hM] at h9
    have HS := Lib.hid h9
    clear hu hg2 hk2 hM h9
    refine hK2.out _ _ trivial (fun hHeld2 => ?_)
    clear hK2 K2 hHeld
    have hHeld := hHeld2
    clear hHeld2
    try simp only [Act.put, List.getElem_toArray, List.getElem_cons_zero, List.getElem_cons_succ, List.setIfInBounds_toArray, List.set_cons_zero, List.set_cons_succ]
    refine wpAnyH_ready (rs := [7]) (by kernel_rfl) (by simp) ?_
    refine AllReadyH.cons rfl (fun K2 hK2 => ?_) AllReadyH.nil
    have fz2 := HS.out.fv.v2.fr
    have y4 := HS.out.fv.v2.cells.c4
    simp only at y4
    go_simp
    obtain ⟨M6, h9⟩ := HS.out.put2 (p2' := ⟨3, 1, 2, 0, 16, [97, 98, 99, 100, 101, 102, 103, 104, 105, 106], false, 0, 0⟩) (setCell_one _ (q + 1) 4 (.int .i64 16)) (HS.out.fv.v2.frm 16)
    obtain ⟨u6, hu⟩ : ∃ u, u5.setCell ⟨q + 1, 4, none⟩ (.int .i64 16) = u := ⟨_, rfl⟩
    rw [hu] at h9 ⊢
    have HS := Lib.hid h9
    clear hu h9 fz2 y4
    refine hK2.out _ _ trivial (fun hHeld2 => ?_)
    clear hK2 K2 hHeld
    have hHeld := hHeld2
    clear hHeld2
    try simp only [Act.put, List.getElem_toArray, List.getElem_cons_zero, List.getElem_cons_succ, List.setIfInBounds_toArray, List.set_cons_zero, List.set_cons_succ]
    refine tkH 8 ?_
    refine wpAnyH_ready (rs := [9]) (by kernel_rfl) (by simp) ?_
    refine AllReadyH.cons rfl (fun K2 hK2 => ?_) AllReadyH.nil
    have fz2 := HS.out.fv.v2.fr
    have y5 := HS.out.fv.v2.cells.c5
    simp only at y5
    go_simp
    obtain ⟨M7, h9⟩ := HS.out.put2 (p2' := ⟨3, 1, 2, 0, 16, [103, 104, 105, 106], false, 0, 0⟩) (A2' := some ⟨g2, 0, none⟩) (c2' := k2) (setCell_one _ (q + 1) 5 (.slice (some ⟨g2, 0, none⟩) 4 k2)) (HS.out.fv.v2.dat [103, 104, 105, 106] (some ⟨g2, 0, none⟩) k2)
    obtain ⟨u7, hu⟩ : ∃ u, u6.setCell ⟨q + 1, 5, none⟩ (.slice (some ⟨g2, 0, none⟩) 4 k2) = u := ⟨_, rfl⟩
    rw [hu] at h9 ⊢
    have HS := Lib.hid h9
    clear hu h9 fz2 y5
    refine hK2.out _ _ trivial (fun hHeld2 => ?_)
    clear hK2 K2 hHeld
    have hHeld := hHeld2
    clear hHeld2
    try simp only [Act.put, List.getElem_toArray, List.getElem_cons_zero, List.getElem_cons_succ, List.setIfInBounds_toArray, List.set_cons_zero, List.set_cons_succ]
    refine wpAnyH_done (by kernel_rfl) ?_ _
    clear hHeld
    go_wp2_with fail
    refine (HS.out.fv.ev.down (by omega) 0 r9).mono ?_
    rintro e u1 ⟨rfl, LU, hx, ht⟩
    have hs := HS.out.next hx ht
    clear hx ht HS
    have fz1 := hs.fv.v1.fr
    obtain ⟨x0, x1, x2, x3, x4, x5, x6, x7, x8⟩ := hs.fv.v1.cells
    have fz2 := hs.fv.v2.fr
    obtain ⟨y0, y1, y2, y3, y4, y5, y6, y7, y8⟩ := hs.fv.v2.cells
    simp only at x0 x1 x2 x3 x4 x5 x6 x7 x8 y0 y1 y2 y3 y4 y5 y6 y7 y8
    have HSD := Lib.hid (show Calls Tryz.prog 19 #[.pointer (some ⟨b, 0, none⟩), .slice (some ⟨u1.heap.size, 0, none⟩) 2 2] (u1.alloc (.cells #[.int .i64 3, .int .i64 1, .int .i64 1, .int .i64 0, .int .i64 6, .slice (some ⟨g1, 0, none⟩) 10 k1, .bool false, .int .i64 0, .int .i64 0, .int .i64 3, .int .i64 1, .int .i64 2, .int .i64 0, .int .i64 16, .slice (some ⟨g2, 0, none⟩) 4 k2, .bool false, .int .i64 0, .int .i64 0] 32)) _ from hs.fv.ev.saidSee (by omega) [⟨⟨3, 1, 1, 0, 6, [54, 55, 56, 57, 97, 98, 99, 100, 101, 102], false, 0, 0⟩, some ⟨g1, 0, none⟩, k1⟩, ⟨⟨3, 1, 2, 0, 16, [103, 104, 105, 106], false, 0, 0⟩, some ⟨g2, 0, none⟩, k2⟩] (seeC hs.s1 (see1 hs.s2)) rfl rfl rfl r10 rfl (by unfold maxLen; simp))
    clear hs
    go_wp2_with fail
    refine HSD.out.mono ?_
    rintro e u2 ⟨rfl, LV, hx, -⟩
    have HF := Lib.hid hx.bel
    clear hx HSD fz1 x0 x1 x2 x3 x4 x5 x6 x7 x8 fz2 y0 y1 y2 y3 y4 y5 y6 y7 y8
    go_wp2_with fail
    refine (wakes19_any _).mono ?_
    rintro e wz ⟨rfl, hb⟩
    have HFIN := Lib.hid (HF.out.trans (hb.mono HF.out.size))
    clear hb HF
    go_wp2
    go_ret
    exact ⟨rfl, HFIN.out⟩
  · have fz2 := HS.out.fv.v2.fr
    have y4 := HS.out.fv.v2.cells.c4
    simp only at y4
    go_simp
    obtain ⟨M5, h9⟩ := HS.out.put2 (p2' := ⟨3, 1, 2, 0, 16, [97, 98, 99, 100, 101, 102, 103, 104, 105, 106], false, 0, 0⟩) (setCell_one _ (q + 1) 4 (.int .i64 16)) (HS.out.fv.v2.frm 16)
    obtain ⟨u5, hu⟩ : ∃ u, v4.setCell ⟨q + 1, 4, none⟩ (.int .i64 16) = u := ⟨_, rfl⟩
    rw [hu] at h9 ⊢
    have HS := Lib.hid h9
    clear hu h9 fz2 y4
    refine hK2.out _ _ trivial (fun hHeld2 => ?_)
    clear hK2 K2 hHeld
    have hHeld := hHeld2
    clear hHeld2
    try simp only [Act.put, List.getElem_toArray, List.getElem_cons_zero, List.getElem_cons_succ, List.setIfInBounds_toArray, List.set_cons_zero, List.set_cons_succ]
    refine wpAnyH_ready (rs := [5]) (by kernel_rfl) (by simp) ?_
    refine AllReadyH.cons rfl (fun K2 hK2 => ?_) AllReadyH.nil
    go_simp
    have h9 := (HS.out.later (below_bytesWorld u5 5 (efS.extract 16 20))).see2 (See.str u5 M5 (efS.extract 16 20) [103, 104, 105, 106] (by kernel_rfl) 1 2 16 (grownCap u5 4 0 5) (grownCap_ge _ _ _ _) (by decide) (by decide))
    obtain ⟨u6, hu⟩ : ∃ u, Lib.bytesWorld u5 5 (efS.extract 16 20) = u := ⟨_, rfl⟩
    obtain ⟨g2, hg2⟩ : ∃ g, u5.heap.size = g := ⟨_, rfl⟩
    obtain ⟨k2, hk2⟩ : ∃ k, grownCap u5 4 0 5 = k := ⟨_, rfl⟩
    rw [hu, hg2, hk2] at h9
    rw [hu, hg2, hk2]
    obtain ⟨M6, hM⟩ : ∃ l, relab M5 g2 0 = l := ⟨_, rfl⟩
    rw [hM] at h9
    have HS := Lib.hid h9
    clear hu hg2 hk2 hM h9
    refine hK2.out _ _ trivial (fun hHeld2 => ?_)
    clear hK2 K2 hHeld
    have hHeld := hHeld2
    clear hHeld2
    try simp only [Act.put, List.getElem_toArray, List.getElem_cons_zero, List.getElem_cons_succ, List.setIfInBounds_toArray, List.set_cons_zero, List.set_cons_succ]
    refine tkH 8 ?_
    refine wpAnyH_ready (rs := [9]) (by kernel_rfl) (by simp) ?_
    refine AllReadyH.cons rfl (fun K2 hK2 => ?_) AllReadyH.nil
    have fz2 := HS.out.fv.v2.fr
    have y5 := HS.out.fv.v2.cells.c5
    simp only at y5
    go_simp
    obtain ⟨M7, h9⟩ := HS.out.put2 (p2' := ⟨3, 1, 2, 0, 16, [103, 104, 105, 106], false, 0, 0⟩) (A2' := some ⟨g2, 0, none⟩) (c2' := k2) (setCell_one _ (q + 1) 5 (.slice (some ⟨g2, 0, none⟩) 4 k2)) (HS.out.fv.v2.dat [103, 104, 105, 106] (some ⟨g2, 0, none⟩) k2)
    obtain ⟨u7, hu⟩ : ∃ u, u6.setCell ⟨q + 1, 5, none⟩ (.slice (some ⟨g2, 0, none⟩) 4 k2) = u := ⟨_, rfl⟩
    rw [hu] at h9 ⊢
    have HS := Lib.hid h9
    clear hu h9 fz2 y5
    refine hK2.out _ _ trivial (fun hHeld2 => ?_)
    clear hK2 K2 hHeld
    have hHeld := hHeld2
    clear hHeld2
    try simp only [Act.put, List.getElem_toArray, List.getElem_cons_zero, List.getElem_cons_succ, List.setIfInBounds_toArray, List.set_cons_zero, List.set_cons_succ]
    refine wpAnyH_done (by kernel_rfl) ?_ _
    clear hHeld
    go_wp2_with fail
    refine (HS.out.fv.ev.down (by omega) 0 r9).mono ?_
    rintro e u1 ⟨rfl, LU, hx, ht⟩
    have hs := HS.out.next hx ht
    clear hx ht HS
    have fz1 := hs.fv.v1.fr
    obtain ⟨x0, x1, x2, x3, x4, x5, x6, x7, x8⟩ := hs.fv.v1.cells
    have fz2 := hs.fv.v2.fr
    obtain ⟨y0, y1, y2, y3, y4, y5, y6, y7, y8⟩ := hs.fv.v2.cells
    simp only at x0 x1 x2 x3 x4 x5 x6 x7 x8 y0 y1 y2 y3 y4 y5 y6 y7 y8
    have HSD := Lib.hid (show Calls Tryz.prog 19 #[.pointer (some ⟨b, 0, none⟩), .slice (some ⟨u1.heap.size, 0, none⟩) 2 2] (u1.alloc (.cells #[.int .i64 3, .int .i64 1, .int .i64 1, .int .i64 0, .int .i64 6, .slice (some ⟨g1, 0, none⟩) 10 k1, .bool false, .int .i64 0, .int .i64 0, .int .i64 3, .int .i64 1, .int .i64 2, .int .i64 0, .int .i64 16, .slice (some ⟨g2, 0, none⟩) 4 k2, .bool false, .int .i64 0, .int .i64 0] 32)) _ from hs.fv.ev.saidSee (by omega) [⟨⟨3, 1, 1, 0, 6, [54, 55, 56, 57, 97, 98, 99, 100, 101, 102], false, 0, 0⟩, some ⟨g1, 0, none⟩, k1⟩, ⟨⟨3, 1, 2, 0, 16, [103, 104, 105, 106], false, 0, 0⟩, some ⟨g2, 0, none⟩, k2⟩] (seeC hs.s1 (see1 hs.s2)) rfl rfl rfl r10 rfl (by unfold maxLen; simp))
    clear hs
    go_wp2_with fail
    refine HSD.out.mono ?_
    rintro e u2 ⟨rfl, LV, hx, -⟩
    have HF := Lib.hid hx.bel
    clear hx HSD fz1 x0 x1 x2 x3 x4 x5 x6 x7 x8 fz2 y0 y1 y2 y3 y4 y5 y6 y7 y8
    go_wp2_with fail
    refine (wakes19_any _).mono ?_
    rintro e wz ⟨rfl, hb⟩
    have HFIN := Lib.hid (HF.out.trans (hb.mono HF.out.size))
    clear hb HF
    go_wp2
    go_ret
    exact ⟨rfl, HFIN.out⟩
noncomputable def ef7_7 : En := ef6.comeC ⟨4, 0, 0, 0, 0, [], false, 7, 50⟩
noncomputable def ef7_8 : En := ef7_7.taken
theorem ef7F : (ef6).mayC ⟨4, 0, 0, 0, 0, [], false, 7, 50⟩ = true ∧ (ef7_7).out = [] ∧ (ef7_8).mayD 0 = true ∧ ((ef7_8).down 0).out = [⟨3, 1, 1, 0, 7, [55, 56, 57, 97, 98, 99, 100, 101, 102, 103], false, 0, 0⟩, ⟨3, 1, 2, 0, 17, [104, 105, 106], false, 0, 0⟩] := by
  refine ⟨?_, ?_, ?_, ?_⟩ <;> kernel_rfl
set_option maxHeartbeats 8000000 in
theorem endFalls_7 (n : Int) (hz : n % 11 = 7) (W : World) : Calls Tryz.prog 8 #[.int .i64 n] W fun e W' => e = .returned (.bool true) ∧ Below W.heap.size W W' := by
  obtain ⟨r1, r2, r3, r4, r5, r6⟩ := efF
  obtain ⟨r7, r8, r9, r10⟩ := ef7F
  have HW := Lib.hid (fun w => within_any n 11 w (by omega) (by omega))
  rw [hz] at HW
  clear hz
  have kc := fun (w : World) (C : Array Value) (n c : Nat) => Lib.run_convert_bytes_const (P := Tryz.prog) w 29 5 C n c Tryz.underlying29 Tryz.underlying5
  have hcv := fun (W : World) (s : ByteArray) => Lib.run_convert_string_bytes (P := Tryz.prog) W 9 29 5 s Tryz.underlying9 Tryz.underlying29 Tryz.underlying5
  go_enter Tryz.func8, Tryz.ntmps8
  go_wp2_with fail
  refine (plain_any _).mono ?_
  rintro e w1 ⟨rfl, hb⟩
  have HB := Lib.hid hb
  clear hb
  obtain ⟨u1, u2, u3, u4⟩ := plUp
  have HUP := Lib.hid (up_any (w0 := W) 2 60 50 10 4 3 1 w1 (fun _ => 0) 1 (by omega) HB.out rfl (fun k _ => by unfold Es; omega) u1 u2 u3 u4)
  clear u1 u2 u3 u4
  go_wp2_with fail
  refine HUP.out.mono ?_
  rintro e w2 ⟨b, L2, rfl, hx, -⟩
  have H2 := Lib.hid (show EV W w2 L2 1 b (upE plC) 2 from hx)
  clear hx HUP HB
  go_wp2_with fail
  refine (H2.out.up (by omega) 1 r1).mono ?_
  rintro e w3 ⟨rfl, L3, hx, ht⟩
  have H3 := Lib.hid (show EV W w3 L3 1 b ef1 3 from hx)
  clear hx ht H2
  have HS := Lib.hid (show Calls Tryz.prog 19 #[.pointer (some ⟨b, 0, none⟩), .slice (some ⟨w3.heap.size, 0, none⟩) 1 1] (w3.alloc (.cells #[.int .i64 1, .int .i64 1, .int .i64 0, .int .i64 0, .int .i64 0, .slice none 0 0, .bool false, .int .i64 0, .int .i64 0] 32)) _ from H3.out.saidSee (by omega) [⟨⟨1, 1, 0, 0, 0, [], false, 0, 0⟩, none, 0⟩] (see1 (See.plain _ _ 1 1 0 0 0 false 0 0 (by decide))) rfl rfl rfl r2 rfl (by unfold maxLen; simp))
  go_wp2_with fail
  refine HS.out.mono ?_
  rintro e w4 ⟨rfl, L4, hx, ht⟩
  have H4 := Lib.hid (show EV W w4 L4 1 b ef2 3 from hx)
  clear hx ht H3 HS
  go_wp2_with fail
  refine (H4.out.writeLit (by omega) (m := 20) (ys := [48, 49, 50, 51, 52, 53, 54, 55, 56, 57, 97, 98, 99, 100, 101, 102, 103, 104, 105, 106]) rfl rfl rfl (by omega) (by decide) r3).mono ?_
  rintro e w5 ⟨rfl, L5, hx, ht⟩
  have H5 := Lib.hid (show EV W w5 L5 1 b ef3 4 from hx)
  clear hx ht H4
  go_wp2_with fail
  refine (H5.out.data 1 0 _ false [48, 49, 50, 51, 52, 53, 54, 55, 56, 57] 10 (by kernel_rfl) rfl (by decide) (by omega)).mono ?_
  rintro e w6 ⟨qa, ca, L6, rfl, hx, hs, ht, hqa⟩
  have H6 := Lib.hid hx
  have Sa := Lib.hid hs
  clear hx hs ht hqa H5
  go_wp2_with fail
  refine (H6.out.data 2 10 _ false [97, 98, 99, 100, 101, 102, 103, 104, 105, 106] 10 (by kernel_rfl) rfl (by decide) (by omega)).mono ?_
  rintro e w7 ⟨qb, cb, L7, rfl, hx, hs, ht, hqb⟩
  have H7 := Lib.hid hx
  have Sa := Lib.hid (Sa.out.keep ht id)
  have Sb := Lib.hid hs
  clear hx hs ht hqb H6
  have HS := Lib.hid (show Calls Tryz.prog 19 #[.pointer (some ⟨b, 0, none⟩), .slice (some ⟨w7.heap.size, 0, none⟩) 2 2] (w7.alloc (.cells #[.int .i64 3, .int .i64 0, .int .i64 1, .int .i64 0, .int .i64 0, .slice (some ⟨qa, 0, none⟩) 10 ca, .bool false, .int .i64 0, .int .i64 0, .int .i64 3, .int .i64 0, .int .i64 2, .int .i64 0, .int .i64 10, .slice (some ⟨qb, 0, none⟩) 10 cb, .bool false, .int .i64 0, .int .i64 0] 32)) _ from H7.out.saidSee (by omega) [⟨⟨3, 0, 1, 0, 0, [48, 49, 50, 51, 52, 53, 54, 55, 56, 57], false, 0, 0⟩, some ⟨qa, 0, none⟩, ca⟩, ⟨⟨3, 0, 2, 0, 10, [97, 98, 99, 100, 101, 102, 103, 104, 105, 106], false, 0, 0⟩, some ⟨qb, 0, none⟩, cb⟩] (seeC Sa.out (see1 Sb.out)) rfl rfl rfl r4 rfl (by unfold maxLen; simp))
  go_wp2_with fail
  refine HS.out.mono ?_
  rintro e w8 ⟨rfl, L8, hx, ht⟩
  have H8 := Lib.hid (show EV W w8 L8 1 b ef4 4 from hx)
  clear hx ht H7 HS
  clear Sa Sb
  have HS := Lib.hid (show Calls Tryz.prog 22 #[.pointer (some ⟨b, 0, none⟩), .agg #[.int .i64 2, .int .i64 1, .int .i64 0, .int .i64 0, .int .i64 0, .slice none 0 0, .bool false, .int .i64 0, .int .i64 0]] w8 _ from H8.out.comeP (by omega) 2 1 0 0 0 false 0 0 (by decide) r5)
  go_wp2_with fail
  refine HS.out.mono ?_
  rintro e w9 ⟨rfl, L9, hx, ht⟩
  have H9 := Lib.hid (show EV W w9 L9 1 b ef5 5 from hx)
  clear hx ht H8 HS
  go_wp2_with fail
  refine (H9.out.saidNo (by omega) r6).mono ?_
  rintro e w10 ⟨rfl, L10, hx, ht⟩
  have H10 := Lib.hid (show EV W w10 L10 1 b ef6 5 from hx)
  clear hx ht H9
  go_wp2_with fail
  refine (HW.out _).mono ?_
  rintro e w' ⟨rfl, rfl⟩
  clear HW
  go_wp2_with fail
  refine (lack_any 0 7 50 _).mono ?_
  rintro e w11 ⟨rfl, hb⟩
  have H11 := Lib.hid (H10.out.later hb)
  clear hb H10
  have HS := Lib.hid (show Calls Tryz.prog 22 #[.pointer (some ⟨b, 0, none⟩), .agg #[.int .i64 4, .int .i64 0, .int .i64 0, .int .i64 0, .int .i64 0, .slice none 0 0, .bool false, .int .i64 7, .int .i64 50]] w11 _ from H11.out.comeP (by omega) 4 0 0 0 0 false 7 50 (by decide) r7)
  go_wp2_with fail
  refine HS.out.mono ?_
  rintro e w12 ⟨rfl, L12, hx, ht⟩
  have H12 := Lib.hid (show EV W w12 L12 1 b ef7_7 6 from hx)
  clear hx ht H11 HS
  go_wp2_with fail
  refine (H12.out.saidNo (by omega) r8).mono ?_
  rintro e w13 ⟨rfl, L13, hx, ht⟩
  have H13 := Lib.hid (show EV W w13 L13 1 b ef7_8 6 from hx)
  clear hx ht H12
  go_wp2_with fail
  refine (H13.out.data 1 7 _ false [55, 56, 57] 3 (by kernel_rfl) rfl (by decide) (by omega)).mono ?_
  rintro e w14 ⟨qa, ca, L14, rfl, hx, hs, ht, hqa⟩
  have H14 := Lib.hid hx
  have Sa := Lib.hid hs
  clear hx hs ht hqa H13
  go_wp2_with fail
  refine (H14.out.data 2 10 _ false [97, 98, 99, 100, 101, 102, 103, 104, 105, 106] 10 (by kernel_rfl) rfl (by decide) (by omega)).mono ?_
  rintro e w15 ⟨qb, cb, L15, rfl, hx, hs, ht, hqb⟩
  have H15 := Lib.hid hx
  have Sa := Lib.hid (Sa.out.keep ht id)
  have Sb := Lib.hid hs
  clear hx hs ht hqb H14
  obtain ⟨J, hJ17, hJ⟩ := lab_over L15 w15.heap.size
  obtain ⟨hf, ht⟩ := FV.new9 H15.out J hJ17 hJ
  have hs : FS W _ _ b ef7_8 6 J _ _ _ _ _ _ _ ⟨⟨3, 0, 1, 0, 7, [55, 56, 57], false, 0, 0⟩, some ⟨qa, 0, none⟩, ca⟩ ⟨⟨3, 0, 2, 0, 10, [97, 98, 99, 100, 101, 102, 103, 104, 105, 106], false, 0, 0⟩, some ⟨qb, 0, none⟩, cb⟩ := ⟨hf, Sa.out.keep ht id, Sb.out.keep ht id⟩
  obtain ⟨q, hq⟩ : ∃ q, w15.heap.size = q := ⟨_, rfl⟩
  obtain ⟨L0, hL0⟩ : ∃ L0, relab L15 w15.heap.size J = L0 := ⟨_, rfl⟩
  rw [hL0] at hs
  obtain ⟨v0, hv0⟩ : ∃ v0, (w15.alloc (.cells z9P 32)).alloc (.cells z9P 32) = v0 := ⟨_, rfl⟩
  rw [hv0, hq] at hs
  have fz1 := hs.fv.v1.fr
  have fz2 := hs.fv.v2.fr
  obtain ⟨x0, x1, x2, x3, x4, x5, x6, x7, x8⟩ := hs.fv.v1.cells
  obtain ⟨y0, y1, y2, y3, y4, y5, y6, y7, y8⟩ := hs.fv.v2.cells
  simp only [Pkt.zero, List.length_nil] at x0 x1 x2 x3 x4 x5 x6 x7 x8 y0 y1 y2 y3 y4 y5 y6 y7 y8
  have HS := Lib.hid hs
  clear hf ht hs hJ17 hJ hL0 Sa Sb H15
  go_upto_region 8 with (fail)
  change Code.wp _ _ _ _ ((v0.setCells q 0 (Pkt.cs ⟨3, 0, 1, 0, 7, [55, 56, 57], false, 0, 0⟩ (some ⟨qa, 0, none⟩) ca)).setCells (q + 1) 0 (Pkt.cs ⟨3, 0, 2, 0, 10, [97, 98, 99, 100, 101, 102, 103, 104, 105, 106], false, 0, 0⟩ (some ⟨qb, 0, none⟩) cb))
  obtain ⟨L1, h1⟩ := HS.out.put1 (setCells_one q (Pkt.cs ⟨3, 0, 1, 0, 7, [55, 56, 57], false, 0, 0⟩ (some ⟨qa, 0, none⟩) ca) 0 v0) (HS.out.fv.v1.all ⟨3, 0, 1, 0, 7, [55, 56, 57], false, 0, 0⟩ (some ⟨qa, 0, none⟩) ca)
  obtain ⟨L2, h2⟩ := h1.put2 (setCells_one (q + 1) (Pkt.cs ⟨3, 0, 2, 0, 10, [97, 98, 99, 100, 101, 102, 103, 104, 105, 106], false, 0, 0⟩ (some ⟨qb, 0, none⟩) cb) 0 _) (h1.fv.v2.all ⟨3, 0, 2, 0, 10, [97, 98, 99, 100, 101, 102, 103, 104, 105, 106], false, 0, 0⟩ (some ⟨qb, 0, none⟩) cb)
  clear x0 x1 x2 x3 x4 x5 x6 x7 x8 y0 y1 y2 y3 y4 y5 y6 y7 y8 fz1 fz2 h1 hv0 hq
  obtain ⟨v1, hv1⟩ : ∃ v1, (v0.setCells q 0 (Pkt.cs ⟨3, 0, 1, 0, 7, [55, 56, 57], false, 0, 0⟩ (some ⟨qa, 0, none⟩) ca)).setCells (q + 1) 0 (Pkt.cs ⟨3, 0, 2, 0, 10, [97, 98, 99, 100, 101, 102, 103, 104, 105, 106], false, 0, 0⟩ (some ⟨qb, 0, none⟩) cb) = v1 := ⟨_, rfl⟩
  rw [hv1] at h2 ⊢
  have fz1 := h2.fv.v1.fr
  have fz2 := h2.fv.v2.fr
  have x1 := h2.fv.v1.cells.c1
  have y1 := h2.fv.v2.cells.c1
  simp only at x1 y1
  have HS := Lib.hid h2
  clear h2 hv1
  go_upto_region 9 with (fail)
  change Code.wp _ _ _ _ ((v1.setCell ⟨q, 1, none⟩ (.int .i64 1)).setCell ⟨q + 1, 1, none⟩ (.int .i64 1))
  obtain ⟨L3, h3⟩ := HS.out.put1 (p1' := ⟨3, 1, 1, 0, 7, [55, 56, 57], false, 0, 0⟩) (setCell_one _ q 1 (.int .i64 1)) (HS.out.fv.v1.pa 1)
  obtain ⟨L4, h4⟩ := h3.put2 (p2' := ⟨3, 1, 2, 0, 10, [97, 98, 99, 100, 101, 102, 103, 104, 105, 106], false, 0, 0⟩) (setCell_one _ (q + 1) 1 (.int .i64 1)) (h3.fv.v2.pa 1)
  obtain ⟨v2, hv2⟩ : ∃ v2, (v1.setCell ⟨q, 1, none⟩ (.int .i64 1)).setCell ⟨q + 1, 1, none⟩ (.int .i64 1) = v2 := ⟨_, rfl⟩
  rw [hv2] at h4 ⊢
  have HS := Lib.hid h4
  clear h3 h4 hv2 fz1 fz2 x1 y1
  have xs5 := fun s => (HS.out.fv.v1.later (below_bytesWorld v2 5 s)).cells.c5
  have fzs := fun s => (HS.out.fv.v1.later (below_bytesWorld v2 5 s)).fr
  simp only at xs5
  go_upto_region 14 with (fail)
  change Code.wp _ _ _ _ ((Lib.bytesWorld v2 5 (efS.extract 7 17)).setCell ⟨q, 5, none⟩ (.slice (some ⟨v2.heap.size, 0, none⟩) 10 (grownCap v2 10 0 5)))
  have h5 := (HS.out.later (below_bytesWorld v2 5 (efS.extract 7 17))).see1 (See.str v2 L4 (efS.extract 7 17) [55, 56, 57, 97, 98, 99, 100, 101, 102, 103] (by kernel_rfl) 1 1 7 (grownCap v2 10 0 5) (grownCap_ge _ _ _ _) (by decide) (by decide))
  obtain ⟨L5, h6⟩ := h5.put1 (p1' := ⟨3, 1, 1, 0, 7, [55, 56, 57, 97, 98, 99, 100, 101, 102, 103], false, 0, 0⟩) (A1' := some ⟨v2.heap.size, 0, none⟩) (c1' := grownCap v2 10 0 5) (setCell_one _ q 5 (.slice (some ⟨v2.heap.size, 0, none⟩) 10 (grownCap v2 10 0 5))) (h5.fv.v1.dat [55, 56, 57, 97, 98, 99, 100, 101, 102, 103] (some ⟨v2.heap.size, 0, none⟩) (grownCap v2 10 0 5))
  obtain ⟨v3, hv3⟩ : ∃ v3, (Lib.bytesWorld v2 5 (efS.extract 7 17)).setCell ⟨q, 5, none⟩ (.slice (some ⟨v2.heap.size, 0, none⟩) 10 (grownCap v2 10 0 5)) = v3 := ⟨_, rfl⟩
  rw [hv3] at h6 ⊢
  obtain ⟨g1, hg1⟩ : ∃ g, v2.heap.size = g := ⟨_, rfl⟩
  obtain ⟨k1, hk1⟩ : ∃ k, grownCap v2 10 0 5 = k := ⟨_, rfl⟩
  rw [hg1, hk1] at h6 ⊢
  clear hv3 hg1 hk1 h5 xs5 fzs HS
  refine wp_region_held_drew (S := fun _ => True) (by kernel_rfl) trivial ?_
  intro hHeld
  obtain ⟨v4, hv4⟩ : ∃ v4, v3.drew = v4 := ⟨_, rfl⟩
  obtain ⟨L6, HS⟩ : ∃ L6, Hid (FS W v4 L6 b ef7_8 6 J q ⟨3, 1, 1, 0, 7, [55, 56, 57, 97, 98, 99, 100, 101, 102, 103], false, 0, 0⟩ (some ⟨g1, 0, none⟩) k1 ⟨3, 1, 2, 0, 10, [97, 98, 99, 100, 101, 102, 103, 104, 105, 106], false, 0, 0⟩ (some ⟨qb, 0, none⟩) cb ⟨⟨3, 1, 1, 0, 7, [55, 56, 57, 97, 98, 99, 100, 101, 102, 103], false, 0, 0⟩, some ⟨g1, 0, none⟩, k1⟩ _) := ⟨_, Lib.hid (by rw [← hv4]; exact h6.later (Below.refl _ _).drew)⟩
  rw [hv4]
  clear hv4 h6
  have hwr : IntKind.i64.wrap 17 = 17 := by decide
  refine tkH 0 ?_
  refine tkH 1 ?_
  refine tkH 2 ?_
  refine tkH 3 ?_
  refine tkH 4 ?_
  refine tkH 6 ?_
  clear hwr
  refine wpAnyH_ready (rs := [5, 7]) (by kernel_rfl) (by simp) ?_
  refine AllReadyH.cons rfl (fun K2 hK2 => ?_) (AllReadyH.cons rfl (fun K2 hK2 => ?_) AllReadyH.nil)
  · go_simp
    have h9 := (HS.out.later (below_bytesWorld v4 5 (efS.extract 17 20))).see2 (See.str v4 L6 (efS.extract 17 20) [104, 105, 106] (by kernel_rfl) 1 2 17 (grownCap v4 3 0 5) (grownCap_ge _ _ _ _) (by decide) (by decide))
    obtain ⟨u5, hu⟩ : ∃ u, Lib.bytesWorld v4 5 (efS.extract 17 20) = u := ⟨_, rfl⟩
    obtain ⟨g2, hg2⟩ : ∃ g, v4.heap.size = g := ⟨_, rfl⟩
    obtain ⟨k2, hk2⟩ : ∃ k, grownCap v4 3 0 5 = k := ⟨_, rfl⟩
    rw [hu, hg2, hk2] at h9
    rw [hu, hg2, hk2]
    obtain ⟨M5, hM⟩ : ∃ l, relab L6 g2 0 = l := ⟨_, rfl⟩
    rw [hM] at h9
    have HS := Lib.hid h9
    clear hu hg2 hk2 hM h9
    refine hK2.out _ _ trivial (fun hHeld2 => ?_)
    clear hK2 K2 hHeld
    have hHeld := hHeld2
    clear hHeld2
    try simp only [Act.put, List.getElem_toArray, List.getElem_cons_zero, List.getElem_cons_succ, List.setIfInBounds_toArray, List.set_cons_zero, List.set_cons_succ]
    refine wpAnyH_ready (rs := [7]) (by kernel_rfl) (by simp) ?_
    refine AllReadyH.cons rfl (fun K2 hK2 => ?_) AllReadyH.nil
    have fz2 := HS.out.fv.v2.fr
    have y4 := HS.out.fv.v2.cells.c4
    simp only at y4
    go_simp
    obtain ⟨M6, h9⟩ := HS.out.put2 (p2' := ⟨3, 1, 2, 0, 17, [97, 98, 99, 100, 101, 102, 103, 104, 105, 106], false, 0, 0⟩) (setCell_one _ (q + 1) 4 (.int .i64 17)) (HS.out.fv.v2.frm 17)
    obtain ⟨u6, hu⟩ : ∃ u, u5.setCell ⟨q + 1, 4, none⟩ (.int .i64 17) = u := ⟨_, rfl⟩
    rw [hu] at h9 ⊢
    have HS := Lib.hid h9
    clear hu h9 fz2 y4
    refine hK2.out _ _ trivial (fun hHeld2 => ?_)
    clear hK2 K2 hHeld
    have hHeld := hHeld2
    clear hHeld2
    try simp only [Act.put, List.getElem_toArray, List.getElem_cons_zero, List.getElem_cons_succ, List.setIfInBounds_toArray, List.set_cons_zero, List.set_cons_succ]
    refine tkH 8 ?_
    refine wpAnyH_ready (rs := [9]) (by kernel_rfl) (by simp) ?_
    refine AllReadyH.cons rfl (fun K2 hK2 => ?_) AllReadyH.nil
    have fz2 := HS.out.fv.v2.fr
    have y5 := HS.out.fv.v2.cells.c5
    simp only at y5
    go_simp
    obtain ⟨M7, h9⟩ := HS.out.put2 (p2' := ⟨3, 1, 2, 0, 17, [104, 105, 106], false, 0, 0⟩) (A2' := some ⟨g2, 0, none⟩) (c2' := k2) (setCell_one _ (q + 1) 5 (.slice (some ⟨g2, 0, none⟩) 3 k2)) (HS.out.fv.v2.dat [104, 105, 106] (some ⟨g2, 0, none⟩) k2)
    obtain ⟨u7, hu⟩ : ∃ u, u6.setCell ⟨q + 1, 5, none⟩ (.slice (some ⟨g2, 0, none⟩) 3 k2) = u := ⟨_, rfl⟩
    rw [hu] at h9 ⊢
    have HS := Lib.hid h9
    clear hu h9 fz2 y5
    refine hK2.out _ _ trivial (fun hHeld2 => ?_)
    clear hK2 K2 hHeld
    have hHeld := hHeld2
    clear hHeld2
    try simp only [Act.put, List.getElem_toArray, List.getElem_cons_zero, List.getElem_cons_succ, List.setIfInBounds_toArray, List.set_cons_zero, List.set_cons_succ]
    refine wpAnyH_done (by kernel_rfl) ?_ _
    clear hHeld
    go_wp2_with fail
    refine (HS.out.fv.ev.down (by omega) 0 r9).mono ?_
    rintro e u1 ⟨rfl, LU, hx, ht⟩
    have hs := HS.out.next hx ht
    clear hx ht HS
    have fz1 := hs.fv.v1.fr
    obtain ⟨x0, x1, x2, x3, x4, x5, x6, x7, x8⟩ := hs.fv.v1.cells
    have fz2 := hs.fv.v2.fr
    obtain ⟨y0, y1, y2, y3, y4, y5, y6, y7, y8⟩ := hs.fv.v2.cells
    simp only at x0 x1 x2 x3 x4 x5 x6 x7 x8 y0 y1 y2 y3 y4 y5 y6 y7 y8
    have HSD := Lib.hid (show Calls Tryz.prog 19 #[.pointer (some ⟨b, 0, none⟩), .slice (some ⟨u1.heap.size, 0, none⟩) 2 2] (u1.alloc (.cells #[.int .i64 3, .int .i64 1, .int .i64 1, .int .i64 0, .int .i64 7, .slice (some ⟨g1, 0, none⟩) 10 k1, .bool false, .int .i64 0, .int .i64 0, .int .i64 3, .int .i64 1, .int .i64 2, .int .i64 0, .int .i64 17, .slice (some ⟨g2, 0, none⟩) 3 k2, .bool false, .int .i64 0, .int .i64 0] 32)) _ from hs.fv.ev.saidSee (by omega) [⟨⟨3, 1, 1, 0, 7, [55, 56, 57, 97, 98, 99, 100, 101, 102, 103], false, 0, 0⟩, some ⟨g1, 0, none⟩, k1⟩, ⟨⟨3, 1, 2, 0, 17, [104, 105, 106], false, 0, 0⟩, some ⟨g2, 0, none⟩, k2⟩] (seeC hs.s1 (see1 hs.s2)) rfl rfl rfl r10 rfl (by unfold maxLen; simp))
    clear hs
    go_wp2_with fail
    refine HSD.out.mono ?_
    rintro e u2 ⟨rfl, LV, hx, -⟩
    have HF := Lib.hid hx.bel
    clear hx HSD fz1 x0 x1 x2 x3 x4 x5 x6 x7 x8 fz2 y0 y1 y2 y3 y4 y5 y6 y7 y8
    go_wp2_with fail
    refine (wakes19_any _).mono ?_
    rintro e wz ⟨rfl, hb⟩
    have HFIN := Lib.hid (HF.out.trans (hb.mono HF.out.size))
    clear hb HF
    go_wp2
    go_ret
    exact ⟨rfl, HFIN.out⟩
  · have fz2 := HS.out.fv.v2.fr
    have y4 := HS.out.fv.v2.cells.c4
    simp only at y4
    go_simp
    obtain ⟨M5, h9⟩ := HS.out.put2 (p2' := ⟨3, 1, 2, 0, 17, [97, 98, 99, 100, 101, 102, 103, 104, 105, 106], false, 0, 0⟩) (setCell_one _ (q + 1) 4 (.int .i64 17)) (HS.out.fv.v2.frm 17)
    obtain ⟨u5, hu⟩ : ∃ u, v4.setCell ⟨q + 1, 4, none⟩ (.int .i64 17) = u := ⟨_, rfl⟩
    rw [hu] at h9 ⊢
    have HS := Lib.hid h9
    clear hu h9 fz2 y4
    refine hK2.out _ _ trivial (fun hHeld2 => ?_)
    clear hK2 K2 hHeld
    have hHeld := hHeld2
    clear hHeld2
    try simp only [Act.put, List.getElem_toArray, List.getElem_cons_zero, List.getElem_cons_succ, List.setIfInBounds_toArray, List.set_cons_zero, List.set_cons_succ]
    refine wpAnyH_ready (rs := [5]) (by kernel_rfl) (by simp) ?_
    refine AllReadyH.cons rfl (fun K2 hK2 => ?_) AllReadyH.nil
    go_simp
    have h9 := (HS.out.later (below_bytesWorld u5 5 (efS.extract 17 20))).see2 (See.str u5 M5 (efS.extract 17 20) [104, 105, 106] (by kernel_rfl) 1 2 17 (grownCap u5 3 0 5) (grownCap_ge _ _ _ _) (by decide) (by decide))
    obtain ⟨u6, hu⟩ : ∃ u, Lib.bytesWorld u5 5 (efS.extract 17 20) = u := ⟨_, rfl⟩
    obtain ⟨g2, hg2⟩ : ∃ g, u5.heap.size = g := ⟨_, rfl⟩
    obtain ⟨k2, hk2⟩ : ∃ k, grownCap u5 3 0 5 = k := ⟨_, rfl⟩
    rw [hu, hg2, hk2] at h9
    rw [hu, hg2, hk2]
    obtain ⟨M6, hM⟩ : ∃ l, relab M5 g2 0 = l := ⟨_, rfl⟩
    rw [hM] at h9
    have HS := Lib.hid h9
    clear hu hg2 hk2 hM h9
    refine hK2.out _ _ trivial (fun hHeld2 => ?_)
    clear hK2 K2 hHeld
    have hHeld := hHeld2
    clear hHeld2
    try simp only [Act.put, List.getElem_toArray, List.getElem_cons_zero, List.getElem_cons_succ, List.setIfInBounds_toArray, List.set_cons_zero, List.set_cons_succ]
    refine tkH 8 ?_
    refine wpAnyH_ready (rs := [9]) (by kernel_rfl) (by simp) ?_
    refine AllReadyH.cons rfl (fun K2 hK2 => ?_) AllReadyH.nil
    have fz2 := HS.out.fv.v2.fr
    have y5 := HS.out.fv.v2.cells.c5
    simp only at y5
    go_simp
    obtain ⟨M7, h9⟩ := HS.out.put2 (p2' := ⟨3, 1, 2, 0, 17, [104, 105, 106], false, 0, 0⟩) (A2' := some ⟨g2, 0, none⟩) (c2' := k2) (setCell_one _ (q + 1) 5 (.slice (some ⟨g2, 0, none⟩) 3 k2)) (HS.out.fv.v2.dat [104, 105, 106] (some ⟨g2, 0, none⟩) k2)
    obtain ⟨u7, hu⟩ : ∃ u, u6.setCell ⟨q + 1, 5, none⟩ (.slice (some ⟨g2, 0, none⟩) 3 k2) = u := ⟨_, rfl⟩
    rw [hu] at h9 ⊢
    have HS := Lib.hid h9
    clear hu h9 fz2 y5
    refine hK2.out _ _ trivial (fun hHeld2 => ?_)
    clear hK2 K2 hHeld
    have hHeld := hHeld2
    clear hHeld2
    try simp only [Act.put, List.getElem_toArray, List.getElem_cons_zero, List.getElem_cons_succ, List.setIfInBounds_toArray, List.set_cons_zero, List.set_cons_succ]
    refine wpAnyH_done (by kernel_rfl) ?_ _
    clear hHeld
    go_wp2_with fail
    refine (HS.out.fv.ev.down (by omega) 0 r9).mono ?_
    rintro e u1 ⟨rfl, LU, hx, ht⟩
    have hs := HS.out.next hx ht
    clear hx ht HS
    have fz1 := hs.fv.v1.fr
    obtain ⟨x0, x1, x2, x3, x4, x5, x6, x7, x8⟩ := hs.fv.v1.cells
    have fz2 := hs.fv.v2.fr
    obtain ⟨y0, y1, y2, y3, y4, y5, y6, y7, y8⟩ := hs.fv.v2.cells
    simp only at x0 x1 x2 x3 x4 x5 x6 x7 x8 y0 y1 y2 y3 y4 y5 y6 y7 y8
    have HSD := Lib.hid (show Calls Tryz.prog 19 #[.pointer (some ⟨b, 0, none⟩), .slice (some ⟨u1.heap.size, 0, none⟩) 2 2] (u1.alloc (.cells #[.int .i64 3, .int .i64 1, .int .i64 1, .int .i64 0, .int .i64 7, .slice (some ⟨g1, 0, none⟩) 10 k1, .bool false, .int .i64 0, .int .i64 0, .int .i64 3, .int .i64 1, .int .i64 2, .int .i64 0, .int .i64 17, .slice (some ⟨g2, 0, none⟩) 3 k2, .bool false, .int .i64 0, .int .i64 0] 32)) _ from hs.fv.ev.saidSee (by omega) [⟨⟨3, 1, 1, 0, 7, [55, 56, 57, 97, 98, 99, 100, 101, 102, 103], false, 0, 0⟩, some ⟨g1, 0, none⟩, k1⟩, ⟨⟨3, 1, 2, 0, 17, [104, 105, 106], false, 0, 0⟩, some ⟨g2, 0, none⟩, k2⟩] (seeC hs.s1 (see1 hs.s2)) rfl rfl rfl r10 rfl (by unfold maxLen; simp))
    clear hs
    go_wp2_with fail
    refine HSD.out.mono ?_
    rintro e u2 ⟨rfl, LV, hx, -⟩
    have HF := Lib.hid hx.bel
    clear hx HSD fz1 x0 x1 x2 x3 x4 x5 x6 x7 x8 fz2 y0 y1 y2 y3 y4 y5 y6 y7 y8
    go_wp2_with fail
    refine (wakes19_any _).mono ?_
    rintro e wz ⟨rfl, hb⟩
    have HFIN := Lib.hid (HF.out.trans (hb.mono HF.out.size))
    clear hb HF
    go_wp2
    go_ret
    exact ⟨rfl, HFIN.out⟩
noncomputable def ef8_7 : En := ef6.comeC ⟨4, 0, 0, 0, 0, [], false, 8, 50⟩
noncomputable def ef8_8 : En := ef8_7.taken
theorem ef8F : (ef6).mayC ⟨4, 0, 0, 0, 0, [], false, 8, 50⟩ = true ∧ (ef8_7).out = [] ∧ (ef8_8).mayD 0 = true ∧ ((ef8_8).down 0).out = [⟨3, 1, 1, 0, 8, [56, 57, 97, 98, 99, 100, 101, 102, 103, 104], false, 0, 0⟩, ⟨3, 1, 2, 0, 18, [105, 106], false, 0, 0⟩] := by
  refine ⟨?_, ?_, ?_, ?_⟩ <;> kernel_rfl
set_option maxHeartbeats 8000000 in
theorem endFalls_8 (n : Int) (hz : n % 11 = 8) (W : World) : Calls Tryz.prog 8 #[.int .i64 n] W fun e W' => e = .returned (.bool true) ∧ Below W.heap.size W W' := by
  obtain ⟨r1, r2, r3, r4, r5, r6⟩ := efF
  obtain ⟨r7, r8, r9, r10⟩ := ef8F
  have HW := Lib.hid (fun w => within_any n 11 w (by omega) (by omega))
  rw [hz] at HW
  clear hz
  have kc := fun (w : World) (C : Array Value) (n c : Nat) => Lib.run_convert_bytes_const (P := Tryz.prog) w 29 5 C n c Tryz.underlying29 Tryz.underlying5
  have hcv := fun (W : World) (s : ByteArray) => Lib.run_convert_string_bytes (P := Tryz.prog) W 9 29 5 s Tryz.underlying9 Tryz.underlying29 Tryz.underlying5
  go_enter Tryz.func8, Tryz.ntmps8
  go_wp2_with fail
  refine (plain_any _).mono ?_
  rintro e w1 ⟨rfl, hb⟩
  have HB := Lib.hid hb
  clear hb
  obtain ⟨u1, u2, u3, u4⟩ := plUp
  have HUP := Lib.hid (up_any (w0 := W) 2 60 50 10 4 3 1 w1 (fun _ => 0) 1 (by omega) HB.out rfl (fun k _ => by unfold Es; omega) u1 u2 u3 u4)
  clear u1 u2 u3 u4
  go_wp2_with fail
  refine HUP.out.mono ?_
  rintro e w2 ⟨b, L2, rfl, hx, -⟩
  have H2 := Lib.hid (show EV W w2 L2 1 b (upE plC) 2 from hx)
  clear hx HUP HB
  go_wp2_with fail
  refine (H2.out.up (by omega) 1 r1).mono ?_
  rintro e w3 ⟨rfl, L3, hx, ht⟩
  have H3 := Lib.hid (show EV W w3 L3 1 b ef1 3 from hx)
  clear hx ht H2
  have HS := Lib.hid (show Calls Tryz.prog 19 #[.pointer (some ⟨b, 0, none⟩), .slice (some ⟨w3.heap.size, 0, none⟩) 1 1] (w3.alloc (.cells #[.int .i64 1, .int .i64 1, .int .i64 0, .int .i64 0, .int .i64 0, .slice none 0 0, .bool false, .int .i64 0, .int .i64 0] 32)) _ from H3.out.saidSee (by omega) [⟨⟨1, 1, 0, 0, 0, [], false, 0, 0⟩, none, 0⟩] (see1 (See.plain _ _ 1 1 0 0 0 false 0 0 (by decide))) rfl rfl rfl r2 rfl (by unfold maxLen; simp))
  go_wp2_with fail
  refine HS.out.mono ?_
  rintro e w4 ⟨rfl, L4, hx, ht⟩
  have H4 := Lib.hid (show EV W w4 L4 1 b ef2 3 from hx)
  clear hx ht H3 HS
  go_wp2_with fail
  refine (H4.out.writeLit (by omega) (m := 20) (ys := [48, 49, 50, 51, 52, 53, 54, 55, 56, 57, 97, 98, 99, 100, 101, 102, 103, 104, 105, 106]) rfl rfl rfl (by omega) (by decide) r3).mono ?_
  rintro e w5 ⟨rfl, L5, hx, ht⟩
  have H5 := Lib.hid (show EV W w5 L5 1 b ef3 4 from hx)
  clear hx ht H4
  go_wp2_with fail
  refine (H5.out.data 1 0 _ false [48, 49, 50, 51, 52, 53, 54, 55, 56, 57] 10 (by kernel_rfl) rfl (by decide) (by omega)).mono ?_
  rintro e w6 ⟨qa, ca, L6, rfl, hx, hs, ht, hqa⟩
  have H6 := Lib.hid hx
  have Sa := Lib.hid hs
  clear hx hs ht hqa H5
  go_wp2_with fail
  refine (H6.out.data 2 10 _ false [97, 98, 99, 100, 101, 102, 103, 104, 105, 106] 10 (by kernel_rfl) rfl (by decide) (by omega)).mono ?_
  rintro e w7 ⟨qb, cb, L7, rfl, hx, hs, ht, hqb⟩
  have H7 := Lib.hid hx
  have Sa := Lib.hid (Sa.out.keep ht id)
  have Sb := Lib.hid hs
  clear hx hs ht hqb H6
  have HS := Lib.hid (show Calls Tryz.prog 19 #[.pointer (some ⟨b, 0, none⟩), .slice (some ⟨w7.heap.size, 0, none⟩) 2 2] (w7.alloc (.cells #[.int .i64 3, .int .i64 0, .int .i64 1, .int .i64 0, .int .i64 0, .slice (some ⟨qa, 0, none⟩) 10 ca, .bool false, .int .i64 0, .int .i64 0, .int .i64 3, .int .i64 0, .int .i64 2, .int .i64 0, .int .i64 10, .slice (some ⟨qb, 0, none⟩) 10 cb, .bool false, .int .i64 0, .int .i64 0] 32)) _ from H7.out.saidSee (by omega) [⟨⟨3, 0, 1, 0, 0, [48, 49, 50, 51, 52, 53, 54, 55, 56, 57], false, 0, 0⟩, some ⟨qa, 0, none⟩, ca⟩, ⟨⟨3, 0, 2, 0, 10, [97, 98, 99, 100, 101, 102, 103, 104, 105, 106], false, 0, 0⟩, some ⟨qb, 0, none⟩, cb⟩] (seeC Sa.out (see1 Sb.out)) rfl rfl rfl r4 rfl (by unfold maxLen; simp))
  go_wp2_with fail
  refine HS.out.mono ?_
  rintro e w8 ⟨rfl, L8, hx, ht⟩
  have H8 := Lib.hid (show EV W w8 L8 1 b ef4 4 from hx)
  clear hx ht H7 HS
  clear Sa Sb
  have HS := Lib.hid (show Calls Tryz.prog 22 #[.pointer (some ⟨b, 0, none⟩), .agg #[.int .i64 2, .int .i64 1, .int .i64 0, .int .i64 0, .int .i64 0, .slice none 0 0, .bool false, .int .i64 0, .int .i64 0]] w8 _ from H8.out.comeP (by omega) 2 1 0 0 0 false 0 0 (by decide) r5)
  go_wp2_with fail
  refine HS.out.mono ?_
  rintro e w9 ⟨rfl, L9, hx, ht⟩
  have H9 := Lib.hid (show EV W w9 L9 1 b ef5 5 from hx)
  clear hx ht H8 HS
  go_wp2_with fail
  refine (H9.out.saidNo (by omega) r6).mono ?_
  rintro e w10 ⟨rfl, L10, hx, ht⟩
  have H10 := Lib.hid (show EV W w10 L10 1 b ef6 5 from hx)
  clear hx ht H9
  go_wp2_with fail
  refine (HW.out _).mono ?_
  rintro e w' ⟨rfl, rfl⟩
  clear HW
  go_wp2_with fail
  refine (lack_any 0 8 50 _).mono ?_
  rintro e w11 ⟨rfl, hb⟩
  have H11 := Lib.hid (H10.out.later hb)
  clear hb H10
  have HS := Lib.hid (show Calls Tryz.prog 22 #[.pointer (some ⟨b, 0, none⟩), .agg #[.int .i64 4, .int .i64 0, .int .i64 0, .int .i64 0, .int .i64 0, .slice none 0 0, .bool false, .int .i64 8, .int .i64 50]] w11 _ from H11.out.comeP (by omega) 4 0 0 0 0 false 8 50 (by decide) r7)
  go_wp2_with fail
  refine HS.out.mono ?_
  rintro e w12 ⟨rfl, L12, hx, ht⟩
  have H12 := Lib.hid (show EV W w12 L12 1 b ef8_7 6 from hx)
  clear hx ht H11 HS
  go_wp2_with fail
  refine (H12.out.saidNo (by omega) r8).mono ?_
  rintro e w13 ⟨rfl, L13, hx, ht⟩
  have H13 := Lib.hid (show EV W w13 L13 1 b ef8_8 6 from hx)
  clear hx ht H12
  go_wp2_with fail
  refine (H13.out.data 1 8 _ false [56, 57] 2 (by kernel_rfl) rfl (by decide) (by omega)).mono ?_
  rintro e w14 ⟨qa, ca, L14, rfl, hx, hs, ht, hqa⟩
  have H14 := Lib.hid hx
  have Sa := Lib.hid hs
  clear hx hs ht hqa H13
  go_wp2_with fail
  refine (H14.out.data 2 10 _ false [97, 98, 99, 100, 101, 102, 103, 104, 105, 106] 10 (by kernel_rfl) rfl (by decide) (by omega)).mono ?_
  rintro e w15 ⟨qb, cb, L15, rfl, hx, hs, ht, hqb⟩
  have H15 := Lib.hid hx
  have Sa := Lib.hid (Sa.out.keep ht id)
  have Sb := Lib.hid hs
  clear hx hs ht hqb H14
  obtain ⟨J, hJ17, hJ⟩ := lab_over L15 w15.heap.size
  obtain ⟨hf, ht⟩ := FV.new9 H15.out J hJ17 hJ
  have hs : FS W _ _ b ef8_8 6 J _ _ _ _ _ _ _ ⟨⟨3, 0, 1, 0, 8, [56, 57], false, 0, 0⟩, some ⟨qa, 0, none⟩, ca⟩ ⟨⟨3, 0, 2, 0, 10, [97, 98, 99, 100, 101, 102, 103, 104, 105, 106], false, 0, 0⟩, some ⟨qb, 0, none⟩, cb⟩ := ⟨hf, Sa.out.keep ht id, Sb.out.keep ht id⟩
  obtain ⟨q, hq⟩ : ∃ q, w15.heap.size = q := ⟨_, rfl⟩
  obtain ⟨L0, hL0⟩ : ∃ L0, relab L15 w15.heap.size J = L0 := ⟨_, rfl⟩
  rw [hL0] at hs
  obtain ⟨v0, hv0⟩ : ∃ v0, (w15.alloc (.cells z9P 32)).alloc (.cells z9P 32) = v0 := ⟨_, rfl⟩
  rw [hv0, hq] at hs
  have fz1 := hs.fv.v1.fr
  have fz2 := hs.fv.v2.fr
  obtain ⟨x0, x1, x2, x3, x4, x5, x6, x7, x8⟩ := hs.fv.v1.cells
  obtain ⟨y0, y1, y2, y3, y4, y5, y6, y7, y8⟩ := hs.fv.v2.cells
  simp only [Pkt.zero, List.length_nil] at x0 x1 x2 x3 x4 x5 x6 x7 x8 y0 y1 y2 y3 y4 y5 y6 y7 y8
  have HS := Lib.hid hs
  clear hf ht hs hJ17 hJ hL0 Sa Sb H15
  go_upto_region 8 with (fail)
  change Code.wp _ _ _ _ ((v0.setCells q 0 (Pkt.cs ⟨3, 0, 1, 0, 8, [56, 57], false, 0, 0⟩ (some ⟨qa, 0, none⟩) ca)).setCells (q + 1) 0 (Pkt.cs ⟨3, 0, 2, 0, 10, [97, 98, 99, 100, 101, 102, 103, 104, 105, 106], false, 0, 0⟩ (some ⟨qb, 0, none⟩) cb))
  obtain ⟨L1, h1⟩ := HS.out.put1 (setCells_one q (Pkt.cs ⟨3, 0, 1, 0, 8, [56, 57], false, 0, 0⟩ (some ⟨qa, 0, none⟩) ca) 0 v0) (HS.out.fv.v1.all ⟨3, 0, 1, 0, 8, [56, 57], false, 0, 0⟩ (some ⟨qa, 0, none⟩) ca)
  obtain ⟨L2, h2⟩ := h1.put2 (setCells_one (q + 1) (Pkt.cs ⟨3, 0, 2, 0, 10, [97, 98, 99, 100, 101, 102, 103, 104, 105, 106], false, 0, 0⟩ (some ⟨qb, 0, none⟩) cb) 0 _) (h1.fv.v2.all ⟨3, 0, 2, 0, 10, [97, 98, 99, 100, 101, 102, 103, 104, 105, 106], false, 0, 0⟩ (some ⟨qb, 0, none⟩) cb)
  clear x0 x1 x2 x3 x4 x5 x6 x7 x8 y0 y1 y2 y3 y4 y5 y6 y7 y8 fz1 fz2 h1 hv0 hq
  obtain ⟨v1, hv1⟩ : ∃ v1, (v0.setCells q 0 (Pkt.cs ⟨3, 0, 1, 0, 8, [56, 57], false, 0, 0⟩ (some ⟨qa, 0, none⟩) ca)).setCells (q + 1) 0 (Pkt.cs ⟨3, 0, 2, 0, 10, [97, 98, 99, 100, 101, 102, 103, 104, 105, 106], false, 0, 0⟩ (some ⟨qb, 0, none⟩) cb) = v1 := ⟨_, rfl⟩
  rw [hv1] at h2 ⊢
  have fz1 := h2.fv.v1.fr
  have fz2 := h2.fv.v2.fr
  have x1 := h2.fv.v1.cells.c1
  have y1 := h2.fv.v2.cells.c1
  simp only at x1 y1
  have HS := Lib.hid h2
  clear h2 hv1
  go_upto_region 9 with (fail)
  change Code.wp _ _ _ _ ((v1.setCell ⟨q, 1, none⟩ (.int .i64 1)).setCell ⟨q + 1, 1, none⟩ (.int .i64 1))
  obtain ⟨L3, h3⟩ := HS.out.put1 (p1' := ⟨3, 1, 1, 0, 8, [56, 57], false, 0, 0⟩) (setCell_one _ q 1 (.int .i64 1)) (HS.out.fv.v1.pa 1)
  obtain ⟨L4, h4⟩ := h3.put2 (p2' := ⟨3, 1, 2, 0, 10, [97, 98, 99, 100, 101, 102, 103, 104, 105, 106], false, 0, 0⟩) (setCell_one _ (q + 1) 1 (.int .i64 1)) (h3.fv.v2.pa 1)
  obtain ⟨v2, hv2⟩ : ∃ v2, (v1.setCell ⟨q, 1, none⟩ (.int .i64 1)).setCell ⟨q + 1, 1, none⟩ (.int .i64 1) = v2 := ⟨_, rfl⟩
  rw [hv2] at h4 ⊢
  have HS := Lib.hid h4
  clear h3 h4 hv2 fz1 fz2 x1 y1
  have xs5 := fun s => (HS.out.fv.v1.later (below_bytesWorld v2 5 s)).cells.c5
  have fzs := fun s => (HS.out.fv.v1.later (below_bytesWorld v2 5 s)).fr
  simp only at xs5
  go_upto_region 14 with (fail)
  change Code.wp _ _ _ _ ((Lib.bytesWorld v2 5 (efS.extract 8 18)).setCell ⟨q, 5, none⟩ (.slice (some ⟨v2.heap.size, 0, none⟩) 10 (grownCap v2 10 0 5)))
  have h5 := (HS.out.later (below_bytesWorld v2 5 (efS.extract 8 18))).see1 (See.str v2 L4 (efS.extract 8 18) [56, 57, 97, 98, 99, 100, 101, 102, 103, 104] (by kernel_rfl) 1 1 8 (grownCap v2 10 0 5) (grownCap_ge _ _ _ _) (by decide) (by decide))
  obtain ⟨L5, h6⟩ := h5.put1 (p1' := ⟨3, 1, 1, 0, 8, [56, 57, 97, 98, 99, 100, 101, 102, 103, 104], false, 0, 0⟩) (A1' := some ⟨v2.heap.size, 0, none⟩) (c1' := grownCap v2 10 0 5) (setCell_one _ q 5 (.slice (some ⟨v2.heap.size, 0, none⟩) 10 (grownCap v2 10 0 5))) (h5.fv.v1.dat [56, 57, 97, 98, 99, 100, 101, 102, 103, 104] (some ⟨v2.heap.size, 0, none⟩) (grownCap v2 10 0 5))
  obtain ⟨v3, hv3⟩ : ∃ v3, (Lib.bytesWorld v2 5 (efS.extract 8 18)).setCell ⟨q, 5, none⟩ (.slice (some ⟨v2.heap.size, 0, none⟩) 10 (grownCap v2 10 0 5)) = v3 := ⟨_, rfl⟩
  rw [hv3] at h6 ⊢
  obtain ⟨g1, hg1⟩ : ∃ g, v2.heap.size = g := ⟨_, rfl⟩
  obtain ⟨k1, hk1⟩ : ∃ k, grownCap v2 10 0 5 = k := ⟨_, rfl⟩
  rw [hg1, hk1] at h6 ⊢
  clear hv3 hg1 hk1 h5 xs5 fzs HS
  refine wp_region_held_drew (S := fun _ => True) (by kernel_rfl) trivial ?_
  intro hHeld
  obtain ⟨v4, hv4⟩ : ∃ v4, v3.drew = v4 := ⟨_, rfl⟩
  obtain ⟨L6, HS⟩ : ∃ L6, Hid (FS W v4 L6 b ef8_8 6 J q ⟨3, 1, 1, 0, 8, [56, 57, 97, 98, 99, 100, 101, 102, 103, 104], false, 0, 0⟩ (some ⟨g1, 0, none⟩) k1 ⟨3, 1, 2, 0, 10, [97, 98, 99, 100, 101, 102, 103, 104, 105, 106], false, 0, 0⟩ (some ⟨qb, 0, none⟩) cb ⟨⟨3, 1, 1, 0, 8, [56, 57, 97, 98, 99, 100, 101, 102, 103, 104], false, 0, 0⟩, some ⟨g1, 0, none⟩, k1⟩ _) := ⟨_, Lib.hid (by rw [← hv4]; exact h6.later (Below.refl _ _).drew)⟩
  rw [hv4]
  clear hv4 h6
  have hwr : IntKind.i64.wrap 18 = 18 := by decide
  refine tkH 0 ?_
  refine tkH 1 ?_
  refine tkH 2 ?_
  refine tkH 3 ?_
  refine tkH 4 ?_
  refine tkH 6 ?_
  clear hwr
  refine wpAnyH_ready (rs := [5, 7]) (by kernel_rfl) (by simp) ?_
  refine AllReadyH.cons rfl (fun K2 hK2 => ?_) (AllReadyH.cons rfl (fun K2 hK2 => ?_) AllReadyH.nil)
  · go_simp
    have h9 := (HS.out.later (below_bytesWorld v4 5 (efS.extract 18 20))).see2 (See.str v4 L6 (efS.extract 18 20) [105, 106] (by kernel_rfl) 1 2 18 (grownCap v4 2 0 5) (grownCap_ge _ _ _ _) (by decide) (by decide))
    obtain ⟨u5, hu⟩ : ∃ u, Lib.bytesWorld v4 5 (efS.extract 18 20) = u := ⟨_, rfl⟩
    obtain ⟨g2, hg2⟩ : ∃ g, v4.heap.size = g := ⟨_, rfl⟩
    obtain ⟨k2, hk2⟩ : ∃ k, grownCap v4 2 0 5 = k := ⟨_, rfl⟩
    rw [hu, hg2, hk2] at h9
    rw [hu, hg2, hk2]
    obtain ⟨M5, hM⟩ : ∃ l, relab L6 g2 0 = l := ⟨_, rfl⟩
    rw [hM] at h9
    have HS := Lib.hid h9
    clear hu hg2 hk2 hM h9
    refine hK2.out _ _ trivial (fun hHeld2 => ?_)
    clear hK2 K2 hHeld
    have hHeld := hHeld2
    clear hHeld2
    try simp only [Act.put, List.getElem_toArray, List.getElem_cons_zero, List.getElem_cons_succ, List.setIfInBounds_toArray, List.set_cons_zero, List.set_cons_succ]
    refine wpAnyH_ready (rs := [7]) (by kernel_rfl) (by simp) ?_
    refine AllReadyH.cons rfl (fun K2 hK2 => ?_) AllReadyH.nil
    have fz2 := HS.out.fv.v2.fr
    have y4 := HS.out.fv.v2.cells.c4
    simp only at y4
    go_simp
    obtain ⟨M6, h9⟩ := HS.out.put2 (p2' := ⟨3, 1, 2, 0, 18, [97, 98, 99, 100, 101, 102, 103, 104, 105, 106], false, 0, 0⟩) (setCell_one _ (q + 1) 4 (.int .i64 18)) (HS.out.fv.v2.frm 18)
    obtain ⟨u6, hu⟩ : ∃ u, u5.setCell ⟨q + 1, 4, none⟩ (.int .i64 18) = u := ⟨_, rfl⟩
    rw [hu] at h9 ⊢
    have HS := Lib.hid h9
    clear hu h9 fz2 y4
    refine hK2.out _ _ trivial (fun hHeld2 => ?_)
    clear hK2 K2 hHeld
    have hHeld := hHeld2
    clear hHeld2
    try simp only [Act.put, List.getElem_toArray, List.getElem_cons_zero, List.getElem_cons_succ, List.setIfInBounds_toArray, List.set_cons_zero, List.set_cons_succ]
    refine tkH 8 ?_
    refine wpAnyH_ready (rs := [9]) (by kernel_rfl) (by simp) ?_
    refine AllReadyH.cons rfl (fun K2 hK2 => ?_) AllReadyH.nil
    have fz2 := HS.out.fv.v2.fr
    have y5 := HS.out.fv.v2.cells.c5
    simp only at y5
    go_simp
    obtain ⟨M7, h9⟩ := HS.out.put2 (p2' := ⟨3, 1, 2, 0, 18, [105, 106], false, 0, 0⟩) (A2' := some ⟨g2, 0, none⟩) (c2' := k2) (setCell_one _ (q + 1) 5 (.slice (some ⟨g2, 0, none⟩) 2 k2)) (HS.out.fv.v2.dat [105, 106] (some ⟨g2, 0, none⟩) k2)
    obtain ⟨u7, hu⟩ : ∃ u, u6.setCell ⟨q + 1, 5, none⟩ (.slice (some ⟨g2, 0, none⟩) 2 k2) = u := ⟨_, rfl⟩
    rw [hu] at h9 ⊢
    have HS := Lib.hid h9
    clear hu h9 fz2 y5
    refine hK2.out _ _ trivial (fun hHeld2 => ?_)
    clear hK2 K2 hHeld
    have hHeld := hHeld2
    clear hHeld2
    try simp only [Act.put, List.getElem_toArray, List.getElem_cons_zero, List.getElem_cons_succ, List.setIfInBounds_toArray, List.set_cons_zero, List.set_cons_succ]
    refine wpAnyH_done (by kernel_rfl) ?_ _
    clear hHeld
    go_wp2_with fail
    refine (HS.out.fv.ev.down (by omega) 0 r9).mono ?_
    rintro e u1 ⟨rfl, LU, hx, ht⟩
    have hs := HS.out.next hx ht
    clear hx ht HS
    have fz1 := hs.fv.v1.fr
    obtain ⟨x0, x1, x2, x3, x4, x5, x6, x7, x8⟩ := hs.fv.v1.cells
    have fz2 := hs.fv.v2.fr
    obtain ⟨y0, y1, y2, y3, y4, y5, y6, y7, y8⟩ := hs.fv.v2.cells
    simp only at x0 x1 x2 x3 x4 x5 x6 x7 x8 y0 y1 y2 y3 y4 y5 y6 y7 y8
    have HSD := Lib.hid (show Calls Tryz.prog 19 #[.pointer (some ⟨b, 0, none⟩), .slice (some ⟨u1.heap.size, 0, none⟩) 2 2] (u1.alloc (.cells #[.int .i64 3, .int .i64 1, .int .i64 1, .int .i64 0, .int .i64 8, .slice (some ⟨g1, 0, none⟩) 10 k1, .bool false, .int .i64 0, .int .i64 0, .int .i64 3, .int .i64 1, .int .i64 2, .int .i64 0, .int .i64 18, .slice (some ⟨g2, 0, none⟩) 2 k2, .bool false, .int .i64 0, .int .i64 0] 32)) _ from hs.fv.ev.saidSee (by omega) [⟨⟨3, 1, 1, 0, 8, [56, 57, 97, 98, 99, 100, 101, 102, 103, 104], false, 0, 0⟩, some ⟨g1, 0, none⟩, k1⟩, ⟨⟨3, 1, 2, 0, 18, [105, 106], false, 0, 0⟩, some ⟨g2, 0, none⟩, k2⟩] (seeC hs.s1 (see1 hs.s2)) rfl rfl rfl r10 rfl (by unfold maxLen; simp))
    clear hs
    go_wp2_with fail
    refine HSD.out.mono ?_
    rintro e u2 ⟨rfl, LV, hx, -⟩
    have HF := Lib.hid hx.bel
    clear hx HSD fz1 x0 x1 x2 x3 x4 x5 x6 x7 x8 fz2 y0 y1 y2 y3 y4 y5 y6 y7 y8
    go_wp2_with fail
    refine (wakes19_any _).mono ?_
    rintro e wz ⟨rfl, hb⟩
    have HFIN := Lib.hid (HF.out.trans (hb.mono HF.out.size))
    clear hb HF
    go_wp2
    go_ret
    exact ⟨rfl, HFIN.out⟩
  · have fz2 := HS.out.fv.v2.fr
    have y4 := HS.out.fv.v2.cells.c4
    simp only at y4
    go_simp
    obtain ⟨M5, h9⟩ := HS.out.put2 (p2' := ⟨3, 1, 2, 0, 18, [97, 98, 99, 100, 101, 102, 103, 104, 105, 106], false, 0, 0⟩) (setCell_one _ (q + 1) 4 (.int .i64 18)) (HS.out.fv.v2.frm 18)
    obtain ⟨u5, hu⟩ : ∃ u, v4.setCell ⟨q + 1, 4, none⟩ (.int .i64 18) = u := ⟨_, rfl⟩
    rw [hu] at h9 ⊢
    have HS := Lib.hid h9
    clear hu h9 fz2 y4
    refine hK2.out _ _ trivial (fun hHeld2 => ?_)
    clear hK2 K2 hHeld
    have hHeld := hHeld2
    clear hHeld2
    try simp only [Act.put, List.getElem_toArray, List.getElem_cons_zero, List.getElem_cons_succ, List.setIfInBounds_toArray, List.set_cons_zero, List.set_cons_succ]
    refine wpAnyH_ready (rs := [5]) (by kernel_rfl) (by simp) ?_
    refine AllReadyH.cons rfl (fun K2 hK2 => ?_) AllReadyH.nil
    go_simp
    have h9 := (HS.out.later (below_bytesWorld u5 5 (efS.extract 18 20))).see2 (See.str u5 M5 (efS.extract 18 20) [105, 106] (by kernel_rfl) 1 2 18 (grownCap u5 2 0 5) (grownCap_ge _ _ _ _) (by decide) (by decide))
    obtain ⟨u6, hu⟩ : ∃ u, Lib.bytesWorld u5 5 (efS.extract 18 20) = u := ⟨_, rfl⟩
    obtain ⟨g2, hg2⟩ : ∃ g, u5.heap.size = g := ⟨_, rfl⟩
    obtain ⟨k2, hk2⟩ : ∃ k, grownCap u5 2 0 5 = k := ⟨_, rfl⟩
    rw [hu, hg2, hk2] at h9
    rw [hu, hg2, hk2]
    obtain ⟨M6, hM⟩ : ∃ l, relab M5 g2 0 = l := ⟨_, rfl⟩
    rw [hM] at h9
    have HS := Lib.hid h9
    clear hu hg2 hk2 hM h9
    refine hK2.out _ _ trivial (fun hHeld2 => ?_)
    clear hK2 K2 hHeld
    have hHeld := hHeld2
    clear hHeld2
    try simp only [Act.put, List.getElem_toArray, List.getElem_cons_zero, List.getElem_cons_succ, List.setIfInBounds_toArray, List.set_cons_zero, List.set_cons_succ]
    refine tkH 8 ?_
    refine wpAnyH_ready (rs := [9]) (by kernel_rfl) (by simp) ?_
    refine AllReadyH.cons rfl (fun K2 hK2 => ?_) AllReadyH.nil
    have fz2 := HS.out.fv.v2.fr
    have y5 := HS.out.fv.v2.cells.c5
    simp only at y5
    go_simp
    obtain ⟨M7, h9⟩ := HS.out.put2 (p2' := ⟨3, 1, 2, 0, 18, [105, 106], false, 0, 0⟩) (A2' := some ⟨g2, 0, none⟩) (c2' := k2) (setCell_one _ (q + 1) 5 (.slice (some ⟨g2, 0, none⟩) 2 k2)) (HS.out.fv.v2.dat [105, 106] (some ⟨g2, 0, none⟩) k2)
    obtain ⟨u7, hu⟩ : ∃ u, u6.setCell ⟨q + 1, 5, none⟩ (.slice (some ⟨g2, 0, none⟩) 2 k2) = u := ⟨_, rfl⟩
    rw [hu] at h9 ⊢
    have HS := Lib.hid h9
    clear hu h9 fz2 y5
    refine hK2.out _ _ trivial (fun hHeld2 => ?_)
    clear hK2 K2 hHeld
    have hHeld := hHeld2
    clear hHeld2
    try simp only [Act.put, List.getElem_toArray, List.getElem_cons_zero, List.getElem_cons_succ, List.setIfInBounds_toArray, List.set_cons_zero, List.set_cons_succ]
    refine wpAnyH_done (by kernel_rfl) ?_ _
    clear hHeld
    go_wp2_with fail
    refine (HS.out.fv.ev.down (by omega) 0 r9).mono ?_
    rintro e u1 ⟨rfl, LU, hx, ht⟩
    have hs := HS.out.next hx ht
    clear hx ht HS
    have fz1 := hs.fv.v1.fr
    obtain ⟨x0, x1, x2, x3, x4, x5, x6, x7, x8⟩ := hs.fv.v1.cells
    have fz2 := hs.fv.v2.fr
    obtain ⟨y0, y1, y2, y3, y4, y5, y6, y7, y8⟩ := hs.fv.v2.cells
    simp only at x0 x1 x2 x3 x4 x5 x6 x7 x8 y0 y1 y2 y3 y4 y5 y6 y7 y8
    have HSD := Lib.hid (show Calls Tryz.prog 19 #[.pointer (some ⟨b, 0, none⟩), .slice (some ⟨u1.heap.size, 0, none⟩) 2 2] (u1.alloc (.cells #[.int .i64 3, .int .i64 1, .int .i64 1, .int .i64 0, .int .i64 8, .slice (some ⟨g1, 0, none⟩) 10 k1, .bool false, .int .i64 0, .int .i64 0, .int .i64 3, .int .i64 1, .int .i64 2, .int .i64 0, .int .i64 18, .slice (some ⟨g2, 0, none⟩) 2 k2, .bool false, .int .i64 0, .int .i64 0] 32)) _ from hs.fv.ev.saidSee (by omega) [⟨⟨3, 1, 1, 0, 8, [56, 57, 97, 98, 99, 100, 101, 102, 103, 104], false, 0, 0⟩, some ⟨g1, 0, none⟩, k1⟩, ⟨⟨3, 1, 2, 0, 18, [105, 106], false, 0, 0⟩, some ⟨g2, 0, none⟩, k2⟩] (seeC hs.s1 (see1 hs.s2)) rfl rfl rfl r10 rfl (by unfold maxLen; simp))
    clear hs
    go_wp2_with fail
    refine HSD.out.mono ?_
    rintro e u2 ⟨rfl, LV, hx, -⟩
    have HF := Lib.hid hx.bel
    clear hx HSD fz1 x0 x1 x2 x3 x4 x5 x6 x7 x8 fz2 y0 y1 y2 y3 y4 y5 y6 y7 y8
    go_wp2_with fail
    refine (wakes19_any _).mono ?_
    rintro e wz ⟨rfl, hb⟩
    have HFIN := Lib.hid (HF.out.trans (hb.mono HF.out.size))
    clear hb HF
    go_wp2
    go_ret
    exact ⟨rfl, HFIN.out⟩
end Go.Proofs.YtpjlnpnadkbakaaGreat
