/-
  The walk of EndOwn , whole.
-/
import Derived.Test.YtpjlnpnadkbakaaGreatQBXOw
import Derived.Test.YtpjlnpnadkbakaaGreatQBZOwnF2
import Derived.Test.YtpjlnpnadkbakaaGreatQBZEndOwnF
import Derived.Test.YtpjlnpnadkbakaaGreatQBCopy
import Derived.Test.YtpjlnpnadkbakaaGreatQBPrEvK
import Derived.Deep.CutBlock
import Derived.Deep.DeepCutAuto
import Derived.Lib.SlBytesConst
namespace Go.Proofs.YtpjlnpnadkbakaaGreat
set_option maxRecDepth 10000
open Go.RowKit
set_option maxHeartbeats 8000000 in
theorem endOwn_walk (a0 : Option Addr) (len0 cap0 : Nat) (z0 : List Int) (W : World) (h0 : ArgI .u8 1 W a0 len0 cap0 z0) : Calls Tryz.prog 14 #[.slice a0 len0 cap0] W fun e W' => e = .returned (.bool true) ∧ Below W.heap.size W W' := by
  have hz9 : (z0.take 9).length ≤ 9 := by rw [List.length_take]; omega
  obtain ⟨ys, hys⟩ : ∃ ys, z0.take 9 = ys := ⟨_, rfl⟩
  have hyb : ∀ x ∈ ys, 0 ≤ x ∧ x < 256 := fun x hx => by
    rw [← hys] at hx
    have := h0.wf x (List.mem_of_mem_take hx)
    exact wf_u8 this
  rw [hys] at hz9
  have HCUT := Lib.hid (show ∀ w, Below W.heap.size W w → Calls Tryz.prog 42 #[.slice a0 len0 cap0, .int .i64 9] w fun e w' => ∃ A' c', e = .returned (.slice A' ys.length c') ∧ Own .u8 5 w' w.heap.size (.slice A' ys.length c') ys ∧ Below w.heap.size w w' from fun w hb => by
    have h1 := cut_any a0 len0 cap0 9 z0 w h0.len h0.le (h0.rd.later hb) (by have := h0.reach; have := h0.le; omega) (by omega) (by omega)
    rw [show (9 : Int).toNat = 9 from rfl, hys] at h1
    exact h1)
  clear hys h0
  obtain ⟨k, hk⟩ : ∃ k, ys.length = k := ⟨_, rfl⟩
  rw [hk] at HCUT hz9
  have HK := Lib.hid (And.intro hk hz9)
  have HYB := Lib.hid hyb
  clear hk hz9 hyb
  have kc := fun (w : World) (C : Array Value) (n c : Nat) => Lib.run_convert_bytes_const (P := Tryz.prog) w 29 5 C n c Tryz.underlying29 Tryz.underlying5
  go_enter Tryz.func14, Tryz.ntmps14
  go_wp2_with fail
  refine (plain_any _).mono ?_
  rintro e w1 ⟨rfl, hb⟩
  have HB := Lib.hid hb
  clear hb
  obtain ⟨u1, u2, u3, u4⟩ := plUp
  have HUP := Lib.hid (up_any (w0 := W) 2 60 50 10 4 3 1 w1 (fun _ => 0) 1 (by omega) HB.out rfl (fun k _ => by unfold Es; omega) u1 u2 u3 u4)
  clear u1 u2 u3 u4
  go_wp2_with fail
  refine HUP.out.mono ?_
  rintro e w2 ⟨b, L2, rfl, hx, -⟩
  have hx : EV W w2 L2 1 b (upE plC) 2 := hx
  obtain ⟨J, hj⟩ := JV.of hx
  have HJ := Lib.hid hj
  clear hx hj HUP HB
  go_wp2_with fail
  refine (HCUT.out _ HJ.out.ev.bel).mono ?_
  rintro e w3 ⟨A3, c3, rfl, ho3, hb3⟩
  have hb4 := hb3.alloc hb3.size (.cells #[.int .u8 5] 5)
  have hrd : Rd .u8 (w3.alloc (.cells #[.int .u8 5] 5)) (some ⟨w3.heap.size, 0, none⟩) [5] := Rd.new w3 [5] 5
  have ho4 := ho3.alloc (.cells #[.int .u8 5] 5)
  obtain ⟨A5, c5, w5, hrun, ho5, hg5, -⟩ := run_append_f (P := Tryz.prog) (w3.alloc (.cells #[.int .u8 5] 5)) .u8 29 29 5 (.int .u8 0) 1 Tryz.underlying29 info_byte rfl w2.heap.size (.slice A3 k c3) ys ho4 (some ⟨w3.heap.size, 0, none⟩) 1 1 [5] rfl hrd (by have := HK.out; unfold maxLen; simp; omega) (by have := HK.out; simp; omega) hb4.size
  rw [HK.out.1] at hrun ho5
  have hb5 : Below w2.heap.size w2 w5 := hb4.trans ((Trn.of_grown hg5).below hb4.size (fun g hg => (ho4.lt g hg).1))
  obtain ⟨xs, hxs⟩ : ∃ xs, ys ++ [5] = xs := ⟨_, rfl⟩
  rw [hxs] at ho5
  have hlen : xs.length = k + 1 := by rw [← hxs]; simp; exact HK.out.1
  have hxb : ∀ x ∈ xs, 0 ≤ x ∧ x < 256 := fun x hx => by
    rw [← hxs] at hx
    rcases List.mem_append.1 hx with h | h
    · exact HYB.out x h
    · simp at h; subst h; omega
  have hX : Byt w5 (relab L2 w2.heap.size 0) A5 c5 xs := ⟨by rw [hlen]; exact ho5.less (Nat.zero_le _), fun g hg => relab_new (ho5.lt g (by rw [← hlen]; exact hg)).1⟩
  have HX := Lib.hid hX
  have HV := Lib.hid (HJ.out.later hb5 0)
  have HL := Lib.hid (And.intro hlen (And.intro hxb (show k + 1 ≤ 10 by have := HK.out; omega)))
  clear hb4 hrd ho4 ho3 hb3 ho5 hg5 hb5 hxs hlen hxb hX HJ HCUT HYB
  go_wp2_with (at_builtin; refine Lib.wpList_append_run _ rfl _ _ _ _ rfl _ _ rfl rfl _ _ hrun ?_)
  clear hrun
  go_wp2_with fail
  refine (copy_any A5 (k + 1) c5 xs w5 HL.out.1 (HX.out.rd) (by have := HL.out; omega)).mono ?_
  rintro e w6 ⟨A6, c6, rfl, ho6, hb6⟩
  have HX := Lib.hid (HX.out.keep (Tn.of_below hb6 _ J (fun _ => False)) id)
  have HV := Lib.hid (HV.out.later hb6 J)
  have hY : ByJ w6 (relab (relab L2 w2.heap.size 0) w5.heap.size J) J A6 c6 xs := ⟨by rw [HL.out.1]; exact ho6.less (Nat.zero_le _), fun g hg => relab_new (ho6.lt g (by rw [← HL.out.1]; exact hg)).1⟩
  have HY := Lib.hid hY
  clear hY ho6 hb6
  obtain ⟨L6, hL6⟩ : ∃ l, relab (relab L2 w2.heap.size 0) w5.heap.size J = l := ⟨_, rfl⟩
  rw [hL6] at HX HV HY
  clear hL6
  have hf := owF xs (by rw [HL.out.1]; omega) (by rw [HL.out.1]; exact HL.out.2.2)
  have HF := Lib.hid hf
  clear hf
  have HW := Lib.hid (show Calls Tryz.prog 18 #[.pointer (some ⟨b, 0, none⟩), .slice A6 (k + 1) c6] w6 fun e w' => e = .returned (.int .i64 ((k + 1 : Nat) : Int)) ∧ ∃ L', JV W w' L' b ((upE plC).write xs) 3 J ∧ Tn w6 w' L6 L' (Es 1) from by
    have h1 := HV.out.write (by omega) HY.out (by rw [HL.out.1]; have := HL.out.2.2; omega) HL.out.2.1 HF.out.takes
    rw [HL.out.1] at h1
    exact h1)
  go_wp2_with fail
  refine HW.out.mono ?_
  rintro e w7 ⟨rfl, L7, hx, ht⟩
  have HX := Lib.hid (HX.out.keep ht hx.ev.relab0)
  have HY := Lib.hid (HY.out.keep ht hx.esJ)
  have HV := Lib.hid hx
  clear hx ht HW
  obtain ⟨g6, rfl, -, hlt6, -, hc6, hf6⟩ := HY.out.own.block (by rw [HL.out.1]; omega)
  have hl6 : L7 g6 = J := HY.out.lab g6 rfl
  have x0 : w7.cell? ⟨g6, 0, none⟩ = some (.int .u8 (xs.getD 0 0)) := hc6 0 (by rw [HL.out.1]; omega)
  obtain ⟨b6, hb6⟩ : ∃ z, xs.getD 0 0 = z := ⟨_, rfl⟩
  rw [hb6] at x0
  have i0 : (0 : Int) < ((k + 1 : Nat) : Int) := by omega
  clear hc6 hb6
  go_upto_region 9 with (fail)
  obtain ⟨L8, hv, ht⟩ := HV.out.put (.int .u8 ((b6 + 1) % 256)) hl6
  obtain ⟨w8, hw8⟩ : ∃ x : World, w7.setCell ⟨g6, 0, none⟩ (.int .u8 ((b6 + 1) % 256)) = x := ⟨_, rfl⟩
  rw [hw8] at hv ht ⊢
  have HX := Lib.hid (HX.out.keep ht HV.out.j0)
  have HV := Lib.hid hv
  clear hv ht hw8 hlt6 hf6 hl6 x0 i0 HY
  go_wp2_with fail
  refine (HV.out.take (by omega) (m := 1) HF.out.out rfl).mono ?_
  rintro e w9 ⟨ms, A9, c9, L9, rfl, hms, hro, hJ, hv, ht⟩
  obtain ⟨m1, rfl, hm1⟩ := map_one hms
  obtain ⟨g9, rfl, y5⟩ := hro.at1
  have ho := (hro.each m1 (by simp)).o
  rw [hm1] at y5 ho
  simp only at y5 ho
  rw [HL.out.1] at y5
  have HX := Lib.hid (HX.out.keep ht hv.ev.relab0)
  obtain ⟨q9, hA9, hq9, hql, -, hqc, hqf⟩ := ho.block (by rw [HL.out.1]; omega)
  rw [hA9] at y5
  have hQ : ByJ w9 L9 J (some ⟨q9, 0, none⟩) m1.c xs := ⟨by rw [← hA9]; exact ho.less (Nat.zero_le _), fun g hg => hJ g (by rw [← hA9] at hg; exact (ho.lt g hg).1)⟩
  have HQ := Lib.hid hQ
  have HV := Lib.hid (show JV W w9 L9 b (ow1 xs) 3 J from hv)
  have HY5 := Lib.hid (And.intro y5 (hJ g9 (hro.row.2.elim (fun h => by simp at h) (fun ⟨g, _, _, h, hg, _⟩ => by injection h with h; injection h with h; injection h with h; subst h; exact hg))))
  have HS := Lib.hid (HV.out.same (c := m1.c) (d := c5) HL.out.1 hQ.rd HX.out.rd (by have := HL.out.2.2; omega))
  clear hms hro hJ hv ht ho hql hqc hqf hQ hA9 hm1
  go_wp2_with fail
  refine HS.out.mono ?_
  rintro e wa ⟨rfl, La, hv, ht⟩
  have HX := Lib.hid (HX.out.keep ht id)
  have HQ := Lib.hid (HQ.out.keep ht id)
  have HV := Lib.hid hv
  have y5 : wa.cell? ⟨g9, 5, none⟩ = some (.slice (some ⟨q9, 0, none⟩) (k + 1) m1.c) := ht.cellAt HY5.out.1 id
  obtain ⟨⟨b9, x0⟩, hf9, hl9⟩ := HQ.out.first (by rw [HL.out.1]; omega)
  have i0 : (0 : Int) < ((k + 1 : Nat) : Int) := by omega
  clear hv ht HS HY5
  go_upto_region 13 with (fail)
  obtain ⟨Lb, hv, ht⟩ := HV.out.put (.int .u8 ((b9 - 1) % 256)) hl9
  obtain ⟨wb, hwb⟩ : ∃ x : World, wa.setCell ⟨q9, 0, none⟩ (.int .u8 ((b9 - 1) % 256)) = x := ⟨_, rfl⟩
  rw [hwb] at hv ht ⊢
  have HX := Lib.hid (HX.out.keep ht HV.out.j0)
  have HV := Lib.hid hv
  clear hv ht hwb hf9 hl9 x0 i0 HQ y5
  have kcv := conv_rd c5 HL.out.1 HX.out.rd
  go_wp2_with fail
  refine (HV.out.dataF (strOfNums xs) xs (k + 1) (sb_str HL.out.2.1) HL.out.1 (by have := HL.out.2.2; omega)).mono ?_
  rintro e wc ⟨qp, cp, Lc, rfl, hv, hJc, hpk, hq1, hq2, hfz, ht⟩
  have HX := Lib.hid (HX.out.keep ht id)
  have HV := Lib.hid hv
  have HP := Lib.hid (And.intro hpk (And.intro hq1 (And.intro (hJc qp hq2) (hfz 0 (by omega)))))
  clear hv hJc hpk hq1 hq2 hfz ht kcv
  have hv0 := PkV.new wc Pkt.zero none 0
  have hb0 : Below wc.heap.size wc (wc.alloc (.cells (Pkt.zero.cs none 0).toArray 32)) := (Below.refl _ _).alloc (Nat.le_refl _) _
  change PkV (wc.alloc (.cells #[.int .i64 0, .int .i64 0, .int .i64 0, .int .i64 0, .int .i64 0, .slice none 0 0, .bool false, .int .i64 0, .int .i64 0] 32)) _ _ _ _ at hv0
  change Below _ _ (wc.alloc (.cells #[.int .i64 0, .int .i64 0, .int .i64 0, .int .i64 0, .int .i64 0, .slice none 0 0, .bool false, .int .i64 0, .int .i64 0] 32)) at hb0
  obtain ⟨vp, hvp⟩ : ∃ v, wc.heap.size = v := ⟨_, rfl⟩
  obtain ⟨wd, hwd⟩ : ∃ x : World, wc.alloc (.cells #[.int .i64 0, .int .i64 0, .int .i64 0, .int .i64 0, .int .i64 0, .slice none 0 0, .bool false, .int .i64 0, .int .i64 0] 32) = x := ⟨_, rfl⟩
  rw [hwd, hvp] at hv0
  rw [hwd] at hb0
  have fz := hv0.fr
  obtain ⟨x0, x1, x2, x3, x4, x5, x6, x7, x8⟩ := hv0.cells
  simp only [Pkt.zero, List.length_nil] at x0 x1 x2 x3 x4 x5 x6 x7 x8
  have hv := HV.out.later hb0 J
  have ht := Tn.of_below hb0 Lc J (fun _ => False)
  have hne : vp ≠ qp := by have := HP.out.2.1; omega
  have hlv : relab Lc wc.heap.size J vp = J := relab_new (by omega)
  have hpk : PktAt wd (owP xs) (some ⟨qp, 0, none⟩) cp := by rw [← hwd]; exact HP.out.1.alloc _
  have HQ := Lib.hid (And.intro hv0 (And.intro hv (And.intro ht (And.intro hne (And.intro hlv hpk)))))
  clear hv0 hb0 hv ht hne hlv hpk
  go_upto_region 14 with (fail)
  have hcs : Pkt.cs (owP xs) (some ⟨qp, 0, none⟩) cp = [.int .i64 3, .int .i64 0, .int .i64 0, .int .i64 0, .int .i64 0, .slice (some ⟨qp, 0, none⟩) (k + 1) cp, .bool false, .int .i64 0, .int .i64 0] := by
    show [_, _, _, _, _, Value.slice (some ⟨qp, 0, none⟩) xs.length cp, _, _, _] = _
    rw [HL.out.1]
    rfl
  change Code.wp _ _ _ _ (wd.setCells vp 0 [.int .i64 3, .int .i64 0, .int .i64 0, .int .i64 0, .int .i64 0, .slice (some ⟨qp, 0, none⟩) (k + 1) cp, .bool false, .int .i64 0, .int .i64 0])
  rw [← hcs]
  obtain ⟨hv0, hv, ht, hne, hlv, hpk⟩ := HQ.out
  have hg := setCells_one vp (Pkt.cs (owP xs) (some ⟨qp, 0, none⟩) cp) 0 wd
  obtain ⟨hv2, ht2⟩ := hv.store hg hlv
  have hpv := hv0.all (owP xs) (some ⟨qp, 0, none⟩) cp
  have hpk2 : PktAt (wd.setCells vp 0 (Pkt.cs (owP xs) (some ⟨qp, 0, none⟩) cp)) (owP xs) (some ⟨qp, 0, none⟩) cp := { hpk with rd := rd_trn hpk.rd (Trn.of_grown hg) (fun a e e2 => by injection e with e; subst e; have := Option.some.inj e2; simp only at this; omega) }
  have hfz : (wd.setCells vp 0 (Pkt.cs (owP xs) (some ⟨qp, 0, none⟩) cp)).frozen? ⟨qp, 0, none⟩ = false := by
    rw [World.frozen?_setCells]
    exact frozen_keep ht HP.out.2.1 id HP.out.2.2.2
  have hqe : qp < (wd.setCells vp 0 (Pkt.cs (owP xs) (some ⟨qp, 0, none⟩) cp)).heap.size := Nat.lt_of_lt_of_le (Nat.lt_of_lt_of_le HP.out.2.1 ht.size) ht2.size
  have hlq := ht2.lab (ht.lab HP.out.2.2.1 HP.out.2.1) (Nat.lt_of_lt_of_le HP.out.2.1 ht.size)
  have hlv2 := ht2.lab hlv hv0.lt
  have HX := Lib.hid ((HX.out.keep ht id).keep ht2 hv.j0)
  obtain ⟨Le, hLe⟩ : ∃ l, relab (relab Lc wc.heap.size J) wd.heap.size J = l := ⟨_, rfl⟩
  obtain ⟨we, hwe⟩ : ∃ x : World, wd.setCells vp 0 (Pkt.cs (owP xs) (some ⟨qp, 0, none⟩) cp) = x := ⟨_, rfl⟩
  rw [hLe, hwe] at hv2 HX
  rw [hLe] at hlq hlv2
  rw [hwe] at hpv hpk2 hfz hqe ⊢
  have c5' : we.cell? ⟨vp, 5, none⟩ = some (.slice (some ⟨qp, 0, none⟩) (k + 1) cp) := by
    have := hpv.cells.c5
    rw [show (owP xs).da.length = k + 1 from HL.out.1] at this
    exact this
  have x0 : we.cell? ⟨vp, 0, none⟩ = some (.int .i64 3) := hpv.cells.c0
  have x1 : we.cell? ⟨vp, 1, none⟩ = some (.int .i64 0) := hpv.cells.c1
  have x2 : we.cell? ⟨vp, 2, none⟩ = some (.int .i64 0) := hpv.cells.c2
  have x3 : we.cell? ⟨vp, 3, none⟩ = some (.int .i64 0) := hpv.cells.c3
  have x4 : we.cell? ⟨vp, 4, none⟩ = some (.int .i64 0) := hpv.cells.c4
  have x6 : we.cell? ⟨vp, 6, none⟩ = some (.bool false) := hpv.cells.c6
  have x7 : we.cell? ⟨vp, 7, none⟩ = some (.int .i64 0) := hpv.cells.c7
  have x8 : we.cell? ⟨vp, 8, none⟩ = some (.int .i64 0) := hpv.cells.c8
  have HCM := Lib.hid (show Calls Tryz.prog 22 #[.pointer (some ⟨b, 0, none⟩), .agg #[.int .i64 3, .int .i64 0, .int .i64 0, .int .i64 0, .int .i64 0, .slice (some ⟨qp, 0, none⟩) (k + 1) cp, .bool false, .int .i64 0, .int .i64 0]] we fun e w' => e = .returned (.bool true) ∧ ∃ L', JV W w' L' b (ow2 xs) 4 J ∧ Tn we w' Le L' (Es 1) from by
    have h1 := hv2.come (by omega) (owP xs) qp cp hpk2 (by show xs.length ≤ 80; have := HL.out; omega) hqe hlq (ow_may (by rw [HL.out.1]; omega) (by rw [HL.out.1]; exact HL.out.2.2))
    rw [ow_come (by rw [HL.out.1]; omega) (by rw [HL.out.1]; exact HL.out.2.2)] at h1
    rw [show (owP xs).val (some ⟨qp, 0, none⟩) cp = .agg #[.int .i64 3, .int .i64 0, .int .i64 0, .int .i64 0, .int .i64 0, .slice (some ⟨qp, 0, none⟩) (k + 1) cp, .bool false, .int .i64 0, .int .i64 0] by show Value.agg #[_, _, _, _, _, Value.slice (some ⟨qp, 0, none⟩) xs.length cp, _, _, _] = _; rw [HL.out.1]; rfl] at h1
    exact h1)
  have b0 : we.cell? ⟨qp, 0, none⟩ = some (.int .u8 (xs.getD 0 0)) := rd_first hpk2.rd (by show 0 < xs.length; rw [HL.out.1]; omega)
  have HP := Lib.hid (And.intro b0 (And.intro hfz (And.intro hqe (And.intro hlq (And.intro hlv2 (And.intro c5' hv2.esJ))))))
  clear hcs hv0 hv ht hne hlv hpk hg hv2 ht2 hpv hpk2 hfz hqe hlq hlv2 hLe hwe HQ HV b0 fz hwd hvp
  go_wp2_with fail
  refine HCM.out.mono ?_
  rintro e wf ⟨rfl, Lf, hv, ht⟩
  have HX := Lib.hid (HX.out.keep ht hv.ev.relab0)
  obtain ⟨b0, hfz, hqe, hlq, hlv2, c5', hes⟩ := HP.out
  have y5 : wf.cell? ⟨vp, 5, none⟩ = some (.slice (some ⟨qp, 0, none⟩) (k + 1) cp) := ht.cellAt c5' (by rw [hlv2]; exact hes)
  have y0 : wf.cell? ⟨qp, 0, none⟩ = some (.int .u8 (xs.getD 0 0)) := ht.cellAt b0 (by rw [hlq]; exact hes)
  have hf0 : wf.frozen? ⟨qp, 0, none⟩ = false := frozen_keep ht hqe (by rw [hlq]; exact hes) hfz
  have hl0 : Lf qp = J := ht.lab hlq hqe
  obtain ⟨bq, hbq⟩ : ∃ z, xs.getD 0 0 = z := ⟨_, rfl⟩
  rw [hbq] at y0
  have i0 : (0 : Int) < ((k + 1 : Nat) : Int) := by omega
  have HV := Lib.hid hv
  clear hv ht hfz hqe hlq hlv2 c5' hes hbq b0 HCM HP x0 x1 x2 x3 x4 x6 x7 x8
  go_upto_region 17 with (fail)
  obtain ⟨Lg, hv, ht⟩ := HV.out.put (.int .u8 ((bq + 1) % 256)) hl0
  obtain ⟨wg, hwg⟩ : ∃ x : World, wf.setCell ⟨qp, 0, none⟩ (.int .u8 ((bq + 1) % 256)) = x := ⟨_, rfl⟩
  rw [hwg] at hv ht ⊢
  have HX := Lib.hid (HX.out.keep ht HV.out.j0)
  have HV := Lib.hid hv
  clear hv ht hwg hf0 hl0 y5 y0 i0
  go_wp2_with fail
  refine (HV.out.events (by omega) (m := 7) rfl HF.out.evn).mono ?_
  rintro e wh ⟨ms, Ah, ch, Lh, rfl, hms, hro, hJ, hv, ht⟩
  obtain ⟨ge, q3, d3, q4, d4, q5, d5, rfl, he⟩ := ow_events hro hms HF.out HL.out.1 (by omega) hJ
  have HX := Lib.hid (HX.out.keep ht id)
  have HE := Lib.hid he
  have HV := Lib.hid hv
  clear hms hro hJ hv ht he
  have y3 := HE.out.c3
  have HS := Lib.hid (HV.out.same (c := d3) (d := c5) HL.out.1 HE.out.r3.rd HX.out.rd (by have := HL.out.2.2; omega))
  go_wp2_with fail
  refine HS.out.mono ?_
  rintro e wi ⟨rfl, Li, hv, ht⟩
  have HX := Lib.hid (HX.out.keep ht id)
  have HE := Lib.hid (HE.out.keep ht id)
  have HV := Lib.hid hv
  clear hv ht HS y3
  have y4 := HE.out.c4
  have HS := Lib.hid (HV.out.same (c := d4) (d := c5) HL.out.1 HE.out.r4.rd HX.out.rd (by have := HL.out.2.2; omega))
  go_wp2_with fail
  refine HS.out.mono ?_
  rintro e wj ⟨rfl, Lj, hv, ht⟩
  have HX := Lib.hid (HX.out.keep ht id)
  have HE := Lib.hid (HE.out.keep ht id)
  have HV := Lib.hid hv
  clear hv ht HS y4
  have y5 := HE.out.c5
  have HS := Lib.hid (HV.out.same (c := d5) (d := c5) HL.out.1 HE.out.r5.rd HX.out.rd (by have := HL.out.2.2; omega))
  go_wp2_with fail
  refine HS.out.mono ?_
  rintro e wk ⟨rfl, Lk, hv, ht⟩
  have HX := Lib.hid (HX.out.keep ht id)
  have HE := Lib.hid (HE.out.keep ht id)
  have HV := Lib.hid hv
  clear hv ht HS y5
  obtain ⟨hB3, hB4, hB5⟩ := HE.out.b3 (by rw [HL.out.1]; omega)
  have HB := Lib.hid (And.intro hB3 (And.intro hB4 hB5))
  clear hB3 hB4 hB5 HE
  obtain ⟨hB3, hB4, hB5⟩ := HB.out
  have yc := hB3.c
  obtain ⟨by_, yb⟩ := hB3.b
  have yf := hB3.fz
  have HG := Lib.hid (And.intro hB3.l hB3.ne)
  have i0 : (0 : Int) < ((k + 1 : Nat) : Int) := by omega
  clear hB3 hB4 hB5
  go_upto_region 21 with (fail)
  obtain ⟨Lwl, hv, ht⟩ := HV.out.put (.int .u8 ((by_ + 1) % 256)) HG.out.1
  have HB2 := Lib.hid (And.intro (HB.out.2.1.put HG.out.2 ht) (HB.out.2.2.put HG.out.2 ht))
  obtain ⟨wl, hw⟩ : ∃ x : World, wk.setCell ⟨q3, 0, none⟩ (.int .u8 ((by_ + 1) % 256)) = x := ⟨_, rfl⟩
  rw [hw] at hv ht HB2 ⊢
  have HX := Lib.hid (HX.out.keep ht HV.out.j0)
  have HV := Lib.hid hv
  clear hv ht hw yc yb yf HG i0 HB
  have HB := HB2
  clear HB2
  obtain ⟨hB4, hB5⟩ := HB.out
  have yc := hB4.c
  obtain ⟨by_, yb⟩ := hB4.b
  have yf := hB4.fz
  have HG := Lib.hid (And.intro hB4.l hB4.ne)
  have i0 : (0 : Int) < ((k + 1 : Nat) : Int) := by omega
  clear hB4 hB5
  go_upto_region 22 with (fail)
  obtain ⟨Lwm, hv, ht⟩ := HV.out.put (.int .u8 ((by_ + 1) % 256)) HG.out.1
  have HB2 := Lib.hid (HB.out.2.put HG.out.2 ht)
  obtain ⟨wm, hw⟩ : ∃ x : World, wl.setCell ⟨q4, 0, none⟩ (.int .u8 ((by_ + 1) % 256)) = x := ⟨_, rfl⟩
  rw [hw] at hv ht HB2 ⊢
  have HX := Lib.hid (HX.out.keep ht HV.out.j0)
  have HV := Lib.hid hv
  clear hv ht hw yc yb yf HG i0 HB
  have HB := HB2
  clear HB2
  have hB5 := HB.out
  have yc := hB5.c
  obtain ⟨by_, yb⟩ := hB5.b
  have yf := hB5.fz
  have HG := Lib.hid (And.intro hB5.l hB5.ne)
  have i0 : (0 : Int) < ((k + 1 : Nat) : Int) := by omega
  clear hB5
  go_upto_region 23 with (fail)
  obtain ⟨Lwn, hv, ht⟩ := HV.out.put (.int .u8 ((by_ + 1) % 256)) HG.out.1
  obtain ⟨wn, hw⟩ : ∃ x : World, wm.setCell ⟨q5, 0, none⟩ (.int .u8 ((by_ + 1) % 256)) = x := ⟨_, rfl⟩
  rw [hw] at hv ht ⊢
  have HX := Lib.hid (HX.out.keep ht HV.out.j0)
  have HV := Lib.hid hv
  clear hv ht hw yc yb yf HG i0 HB
  go_wp2_with fail
  refine (HV.out.writtenK HF.out.wr HL.out.1).mono ?_
  rintro e wo ⟨Aw, cw, Lo, rfl, hbw, hv, ht⟩
  obtain ⟨gw, rfl⟩ := hbw.at (by rw [HL.out.1]; omega)
  have HX := Lib.hid (HX.out.keep ht id)
  have HW := Lib.hid hbw
  have HV := Lib.hid hv
  clear hbw hv ht
  go_wp2_with fail
  refine (HV.out.state HF.out.stn).mono ?_
  rintro e wp ⟨As, cs, Lp, rfl, hos, hls, hv, ht⟩
  have HX := Lib.hid (HX.out.keep ht id)
  have HW := Lib.hid (HW.out.keep ht id)
  have HV := Lib.hid hv
  obtain ⟨gs, rfl, -, hgs, -, hcs, hfs⟩ := hos.block (by omega)
  have hs0 := hcs 0 (by omega)
  have hlgs : Lp gs = J := hls gs rfl
  obtain ⟨⟨bw, x0⟩, hfw, hlw⟩ := HW.out.first (by rw [HL.out.1]; omega)
  obtain ⟨sx, hsx⟩ : ∃ x, (ow2 xs).state.getD 0 0 = x := ⟨_, rfl⟩
  rw [hsx] at hs0
  have hne : gs ≠ gw := by
    rintro rfl
    rw [hs0] at x0
    injection x0 with x0
    injection x0 with x0 _
    cases x0
  have i0 : (0 : Int) < ((k + 1 : Nat) : Int) := by omega
  have i1 : ¬ (((k + 1 : Nat) : Int) = 0) := by omega
  have HSS := Lib.hid (And.intro hs0 (And.intro hfs (And.intro hlgs hne)))
  clear hv ht hos hls hcs hfs hs0 hlgs hne hsx hgs HW
  go_upto_region 27 with (fail)
  obtain ⟨Lq, hv, ht⟩ := HV.out.put (.int .u8 ((bw + 1) % 256)) hlw
  have y0 : (wp.setCell ⟨gw, 0, none⟩ (.int .u8 ((bw + 1) % 256))).cell? ⟨gs, 0, none⟩ = some (.int .i64 sx) := (World.cell?_setCell_other wp _ _ _ (fun e => by injection e with e _; exact HSS.out.2.2.2 e.symm)).trans HSS.out.1
  have hfs : ∀ i, (wp.setCell ⟨gw, 0, none⟩ (.int .u8 ((bw + 1) % 256))).frozen? ⟨gs, i, none⟩ = false := fun i => by rw [World.frozen?_setCell]; exact HSS.out.2.1 i
  have hlq : Lq gs = J := ht.lab HSS.out.2.2.1 (World.block_lt_of_cell? wp _ HSS.out.1)
  obtain ⟨wq, hwq⟩ : ∃ x : World, wp.setCell ⟨gw, 0, none⟩ (.int .u8 ((bw + 1) % 256)) = x := ⟨_, rfl⟩
  rw [hwq] at hv ht y0 hfs ⊢
  have HX := Lib.hid (HX.out.keep ht HV.out.j0)
  have HV := Lib.hid hv
  have HLQ := Lib.hid hlq
  clear hv ht hwq x0 hfw hlw i0 i1 HSS hlq
  go_upto_region 28 with (fail)
  obtain ⟨Lr, hv, ht⟩ := HV.out.put (.int .i64 (wrap64 (sx + 1))) HLQ.out
  obtain ⟨wr, hwr⟩ : ∃ x : World, wq.setCell ⟨gs, 0, none⟩ (.int .i64 (wrap64 (sx + 1))) = x := ⟨_, rfl⟩
  rw [hwr] at hv ht ⊢
  have HX := Lib.hid (HX.out.keep ht HV.out.j0)
  have HV := Lib.hid hv
  clear hv ht hwr hfs y0 HLQ
  go_wp2_with fail
  refine (HV.out.events (by omega) (m := 7) rfl HF.out.evn).mono ?_
  rintro e ws ⟨ms, As, cs, Ls, rfl, hms, hro, hJ, hv, ht⟩
  obtain ⟨ge, q3, d3, q4, d4, q5, d5, rfl, he⟩ := ow_events hro hms HF.out HL.out.1 (by omega) hJ
  have HX := Lib.hid (HX.out.keep ht id)
  have HE := Lib.hid he
  have HV := Lib.hid hv
  clear hms hro hJ hv ht he
  go_wp2_with fail
  refine (HV.out.state (m := 33) HF.out.stn).mono ?_
  rintro e wt ⟨At, ct, Lt, rfl, ho, hof, hv, ht⟩
  have HX := Lib.hid (HX.out.keep ht id)
  have HE := Lib.hid (HE.out.keep ht id)
  have HV := Lib.hid hv
  have HO := Lib.hid ho
  clear hv ht ho hof
  have hz0 : (ow2 xs).state.getD 0 0 = 0 := by
    have h := HF.out.st
    have hn := HF.out.stn
    revert h hn
    generalize (ow2 xs).state = l
    intro h hn
    cases l with
    | nil => simp at hn
    | cons a t => simpa using h
  obtain ⟨gz, rfl, -, -, -, hcs, -⟩ := HO.out.block (by omega)
  have hs0 := hcs 0 (by omega)
  rw [hz0] at hs0
  have HZ := Lib.hid hs0
  clear hs0 hcs hz0 HO
  have i0 : (0 : Int) < ((k + 1 : Nat) : Int) := by omega
  have y3 := HE.out.c3
  have HS := Lib.hid (HV.out.same (c := d3) (d := c5) HL.out.1 HE.out.r3.rd HX.out.rd (by have := HL.out.2.2; omega))
  go_wp2_with fail
  refine HS.out.mono ?_
  rintro e wu ⟨rfl, Lwu, hv, ht⟩
  have HX := Lib.hid (HX.out.keep ht id)
  have HE := Lib.hid (HE.out.keep ht id)
  have HZ := Lib.hid (ht.cellAt HZ.out id)
  have HV := Lib.hid hv
  clear hv ht HS y3
  have y4 := HE.out.c4
  have HS := Lib.hid (HV.out.same (c := d4) (d := c5) HL.out.1 HE.out.r4.rd HX.out.rd (by have := HL.out.2.2; omega))
  go_wp2_with fail
  refine HS.out.mono ?_
  rintro e wv ⟨rfl, Lwv, hv, ht⟩
  have HX := Lib.hid (HX.out.keep ht id)
  have HE := Lib.hid (HE.out.keep ht id)
  have HZ := Lib.hid (ht.cellAt HZ.out id)
  have HV := Lib.hid hv
  clear hv ht HS y4
  have y5 := HE.out.c5
  have HS := Lib.hid (HV.out.same (c := d5) (d := c5) HL.out.1 HE.out.r5.rd HX.out.rd (by have := HL.out.2.2; omega))
  go_wp2_with fail
  refine HS.out.mono ?_
  rintro e ww ⟨rfl, Lww, hv, ht⟩
  have HX := Lib.hid (HX.out.keep ht id)
  have HE := Lib.hid (HE.out.keep ht id)
  have HZ := Lib.hid (ht.cellAt HZ.out id)
  have HV := Lib.hid hv
  clear hv ht HS y5
  go_wp2_with fail
  refine (HV.out.writtenK HF.out.wr HL.out.1).mono ?_
  rintro e wx ⟨Ax, cx, Lx, rfl, hbw, hv, ht⟩
  have HX := Lib.hid (HX.out.keep ht id)
  have HZ := Lib.hid (ht.cellAt HZ.out id)
  have HV := Lib.hid hv
  have HW := Lib.hid hbw
  clear hv ht hbw HE
  have HS := Lib.hid (HV.out.same (c := cx) (d := c5) HL.out.1 HW.out.rd HX.out.rd (by have := HL.out.2.2; omega))
  go_wp2_with fail
  refine HS.out.mono ?_
  rintro e wy ⟨rfl, Ly, hv, ht⟩
  have HX := Lib.hid (HX.out.keep ht id)
  have z0 := ht.cellAt HZ.out id
  have HV := Lib.hid hv
  clear hv ht HS HW HZ
  go_wp2_with fail
  refine (HV.out.ev.read (by omega) 20 HF.out.rd HL.out.1).mono ?_
  rintro e wA ⟨AA, cA, LA, rfl, hbt, hx, ht⟩
  have HX := Lib.hid (HX.out.keep ht hx.relab0)
  have HY := Lib.hid hbt
  obtain ⟨J', hj⟩ := JV.of hx
  have HJ := Lib.hid hj
  clear hbt hx ht hj HV
  have HS := Lib.hid (HJ.out.same (c := cA) (d := c5) HL.out.1 HY.out.rd HX.out.rd (by have := HL.out.2.2; omega))
  go_wp2_with fail
  refine HS.out.mono ?_
  rintro e wB ⟨rfl, LB, hv, ht⟩
  have HF := Lib.hid hv.ev.bel
  clear hv ht HS HJ HX HY
  go_wp2_with fail
  refine (wakes19_any _).mono ?_
  rintro e wz ⟨rfl, hb⟩
  have HFIN := Lib.hid (HF.out.trans (hb.mono HF.out.size))
  clear hb HF
  go_wp2
  go_ret
  exact ⟨rfl, HFIN.out⟩
end Go.Proofs.YtpjlnpnadkbakaaGreat
