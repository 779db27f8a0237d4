/-
  The walk of StoreBlocks.
-/
import Derived.Test.YtbjneoeiognahaaStoreBlocksMath
import Derived.Test.YtbjneoeiognahaaStClone
import Derived.Test.YtbjneoeiognahaaStBlocks
import Derived.Test.YtbjneoeiognahaaBase
import Derived.Deep.LoopGhost
namespace Go.Proofs.Ytbjneoeiognahaa
open Go.RowKit Go.Maps

theorem zeroI (w : World) : (zeroValue 3).run Try.prog w = .ok (.int .i64 0) w := by kernel_rfl
theorem cntR_int {c : Int} (h : -9223372036854775808 ≤ c) (h' : c ≤ 9223372036854775807) : plainElem (H := Unit) Try.prog 3 (.int .i64 c) = some (.lit (.int .i64 c), []) := plainElem_int Try.underlying3 (wfI h h')
theorem trn_mapR {w w1 : World} {F : Nat → Prop} {R : Value → Option (DataW Unit × List MemPlace)} {b n : Nat} {D : DataW Unit} (h : Trn w w1 F) (ho : w.ownsMap Try.prog 3 R b n D) (hb : ¬ F b) : w1.ownsMap Try.prog 3 R b n D := h.map ho hb

set_option maxRecDepth 10000 in
theorem slice_low (g n c a : Nat) (h : a ≤ n) (hc : a < c) (W : World) : (Instr.sliceAt 23 (.slice (some ⟨g, 0, none⟩) n c) (some (.int .i64 (a : Nat))) none none).run Try.prog W = .ok (.slice (some ⟨g, a, none⟩) (n - a) (c - a)) W := by
  rw [run_sliceAt_slice _ _ _ _ _ _ Try.underlying23, run_slice_l (P := Try.prog) W 23 (some ⟨g, 0, none⟩) n c Try.underlying23 .i64 (a : Int) (by omega) (by omega)]
  have hca : c ≠ a := by omega
  go_simp

theorem StoreIs.rdKeep {w w1 : World} {B p : Nat} {s : St} {F G : Nat → Prop} (h : StoreIs w B p s F) (ht : Trn w w1 G) (hf : ∀ k, F k → ¬ G k) : StoreIs w1 B p s F := h.kept ht hf

set_option maxRecDepth 100000 in
set_option maxHeartbeats 8000000 in
theorem storeBlocks_walk (a0 : Option Addr) (len0 cap0 : Nat) (z0 : List Int) (a1 : Option Addr) (len1 cap1 : Nat) (z1 : List Int) (W : World)
    (h0 : ArgI .i64 8 W a0 len0 cap0 z0) (h1 : ArgI .u8 1 W a1 len1 cap1 z1) :
    Calls Try.prog 3 #[.slice a0 len0 cap0, .slice a1 len1 cap1] W fun e W' => e = .returned (.bool true) ∧ Below W.heap.size W W' := by
  have hre0 := h0.reach
  have hle0 := h0.le
  have hre1 := h1.reach
  have hle1 := h1.le
  have hmk := @run_makeMap Try.prog
  have H0 := Lib.hid h0
  have H1 := Lib.hid h1
  clear h0 h1
  obtain ⟨xa, hxa⟩ : ∃ xa, z1.take 10 = xa := ⟨_, rfl⟩
  have hla : xa.length ≤ 10 := by rw [← hxa]; exact List.length_take_le _ _
  obtain ⟨L0, hL0⟩ : ∃ n, xa.length = n := ⟨_, rfl⟩
  rw [hL0] at hla
  have HXA := Lib.hid hxa
  have HL0 := Lib.hid hL0
  clear hxa hL0
  go_enter Try.func3, Try.ntmps3
  go_wp2_with fail
  refine (newst_any W W.heap.size (Nat.le_refl _)).mono ?_
  rintro e w1 hn
  obtain ⟨p, F, rfl, hs, hb, hf⟩ := newst_is hn
  have HS := Lib.hid hs
  have HB := Lib.hid hb
  have HC1 := Lib.hid (Go.Proofs.Ytbjneoeiognahaa.cut_any a1 len1 cap1 10 z1 w1 H1.out.len H1.out.le (H1.out.rd.later hb) (by omega) (by omega) (by omega))
  clear hn hs hb hf
  go_wp2_with fail
  refine HC1.out.mono ?_
  rintro e w2 ⟨A0, c0, rfl, ho, hb⟩
  rw [show (10 : Int).toNat = 10 from rfl, HXA.out] at ho ⊢
  rw [HL0.out] at ho ⊢
  have hal : Below w2.heap.size w2 (w2.alloc (.cells (bts [1]) 5)) := (Below.refl _ _).alloc (Nat.le_refl _) _
  have HO := Lib.hid (ho.later hal)
  have HS2 := Lib.hid (HS.out.later (hb.trans (hal.mono hb.size)))
  have HB2 := Lib.hid (HB.out.trans ((hb.trans (hal.mono hb.size)).mono HB.out.size))
  have HZ1 := Lib.hid (Nat.le_trans hb.size hal.size)
  have hzw := HB.out.size
  have HZW := Lib.hid hzw
  clear ho hb hal HC1
  go_wp2_with (at_builtin; refine wpList_app _ .u8 rfl (.tmp 26) (.tmp 27) 23 rfl 5 (.int .u8 0) 1 Try.underlying23 info_byte rfl w1.heap.size (.slice A0 L0 c0) xa rfl HO.out (some ⟨w2.heap.size, 0, none⟩) 1 1 rfl [1] rfl (lit_rd w2 [1] (by simp [maxLen])) (by rw [HL0.out]; unfold maxLen; omega) (by rw [HL0.out]; omega) HZ1.out ?_; intro A2 c2 w3 ho2 hg2; rw [HL0.out] at ho2 ⊢; have HO3 := Lib.hid ho2; have HG3 := Lib.hid hg2; clear ho2 hg2)
  obtain ⟨b, hxx⟩ : ∃ b, xa ++ [1] = b := ⟨_, rfl⟩
  obtain ⟨LB, hLB⟩ : ∃ n, L0 + 1 = n := ⟨_, rfl⟩
  rw [hLB] at HO3 ⊢
  rw [hxx] at HO3
  have hxl : b.length = LB := by rw [← hxx, List.length_append, HL0.out]; exact hLB
  have HLB := Lib.hid hxl
  have hlb2 : LB ≤ 11 := by omega
  have hlb1 : 1 ≤ LB := by omega
  have HLB9 := Lib.hid (show b.length ≤ 11 by omega)
  have HBY := Lib.hid (show ∀ x ∈ b, 0 ≤ x ∧ x < 256 from fun x hx => by
    rw [← hxx] at hx
    rcases List.mem_append.1 hx with h | h
    · rw [← HXA.out] at h; exact wf_u8 (H1.out.wf x (List.mem_of_mem_take h))
    · simp at h; omega)
  have hS3 := HS2.out.kept (Trn.of_grown HG3.out) (fun k hk e => by have := (HO.out.lt k e).1; have := (HS.out.foot_lt k hk).2; omega)
  have hA3 : Apart (.slice A2 LB c2) F := apart_new HS.out HO3.out
  have hB3 : Below W.heap.size W w3 := HB2.out.grown HG3.out HB2.out.size (fun k e => by have h9 := (HO.out.lt k e).1; have h8 := HZW.out; omega)
  have hm3 : (w3.alloc (.map #[] 0)).ownsMap Try.prog 3 (plainElem (H := Unit) Try.prog 3) w3.heap.size 0 (.map []) := World.ownsMap_made w3 Try.prog 3 (plainElem Try.prog 3)
  have hal : Below w3.heap.size w3 (w3.alloc (.map #[] 0)) := (Below.refl _ _).alloc (Nat.le_refl _) _
  obtain ⟨mc, hmc⟩ : ∃ mc, w3.heap.size = mc := ⟨_, rfl⟩
  have hmF : ¬ F mc := fun e => by have := (hS3.foot_lt mc e).2; omega
  have hmB : ∀ g, (Value.slice A2 LB c2).ownBlock = some g → g ≠ mc := fun g hg => by have := (HO3.out.lt g hg).2; omega
  have HS4 := Lib.hid (hS3.later hal)
  have HO4 := Lib.hid (HO3.out.later hal)
  have HA4 := Lib.hid hA3
  have HB4 := Lib.hid (hB3.trans (hal.mono hB3.size))
  have HM4 := Lib.hid hm3
  have HMF := Lib.hid hmF
  have HMB := Lib.hid hmB
  have hmcW : W.heap.size ≤ mc := by have := hB3.size; omega
  clear hxx hLB hxl hS3 hA3 hB3 hm3 hal hmF hmB HO HS2 HB2 HZ1 HO3 HG3 HS HB
  go_wp2_with fail
  rw [hmc] at HM4 ⊢
  obtain ⟨w4, hw4⟩ : ∃ w4, w4 = w3.alloc (.map #[] 0) := ⟨_, rfl⟩
  rw [← hw4] at HS4 HO4 HB4 HM4 ⊢
  clear hw4 hmc
  go_loopw [7] (fun vi wr => ∃ (i : Nat) (F' : Nat → Prop) (bs : List Blk) (D : DataW Unit), i ≤ len0 ∧ i ≤ 12 ∧ vi = .int .i64 i ∧ Hid (StoreIs wr W.heap.size p ⟨bs, false, 0, false⟩ F') ∧ Hid (wr.ownsMap Try.prog 3 (plainElem Try.prog 3) mc i D ∧ ¬ F' mc)
      ∧ Hid (Own .u8 5 wr w1.heap.size (.slice A2 LB c2) b ∧ Apart (.slice A2 LB c2) F') ∧ Hid (Counted i b bs D) ∧ Hid (Below W.heap.size W wr)) (fun vi _ => len0 - (intOf vi).toNat)
  case atStart => exact ⟨0, F, [], .map [], Nat.zero_le _, by omega, rfl, HS4, ⟨HM4.out, HMF.out⟩, ⟨HO4.out, HA4.out⟩, Counted.start b, HB4⟩
  case round =>
    obtain ⟨i, F', bs, D, hi, hi12, rfl, hs, hm, ho, hcnt, hbw⟩ := hrel
    by_cases hlt : i < len0 ∧ i < 12
    · obtain ⟨hl1, hl2⟩ := hlt
      have i1 : (i : Int) < (len0 : Int) := by omega
      have i2 : (i : Int) < 12 := by omega
      have i3 : (0 : Int) ≤ (i : Int) := by omega
      obtain ⟨ab, ao, rfl, hcell⟩ := (H0.out.rd.later hbw.out).some_ (by rw [H0.out.len]; omega)
      have hc := hcell i (by rw [H0.out.len]; exact hl1)
      obtain ⟨x, hx⟩ : ∃ x, z0.getD i 0 = x := ⟨_, rfl⟩
      rw [hx] at hc
      clear hcell hx
      obtain ⟨N, hN⟩ : ∃ N : Int, 1 + x % 9 = N := ⟨_, rfl⟩
      have hN0 : 1 ≤ N ∧ N ≤ 9 := by omega
      obtain ⟨X, hX⟩ : ∃ X, x % 9 = X := ⟨_, rfl⟩
      have hXN : 1 + X = N := by omega
      have hX0 : 0 ≤ X ∧ X < 9 := by omega
      have HX := Lib.hid hX
      have HXN := Lib.hid hXN
      have hlb0 : 0 < LB := by omega
      clear hN hX hXN
      go_wp2_with fail
      refine (within_any x 9 wr (by omega) (by omega)).mono ?_
      rw [HX.out]
      rintro e w' ⟨rfl, rfl⟩
      go_wp2_with fail
      refine (Go.Proofs.Ytbjneoeiognahaa.copy_any A2 LB c2 b wr HLB.out ho.out.1.rd (by omega)).mono ?_
      rintro e w5 ⟨A5, c5, rfl, ho5, hb5⟩
      have HO5 := Lib.hid ho5
      have HA5 := Lib.hid (apart_new hs.out ho5)
      have HS5 := Lib.hid (hs.out.later hb5)
      have HM5 := Lib.hid (trn_mapR (Trn.of_below (F := fun _ => False) hb5) hm.out.1 (fun h => h))
      have HBO5 := Lib.hid (ho.out.1.later hb5)
      have HB5 := Lib.hid (hbw.out.trans (hb5.mono hbw.out.size))
      have HAB := Lib.hid ho.out.2
      have HMF5 := Lib.hid hm.out.2
      have hne5 : ∀ g, (Value.slice A5 LB c5).ownBlock = some g → g ≠ mc ∧ ∀ g', (Value.slice A2 LB c2).ownBlock = some g' → g ≠ g' := fun g hg => by
        have h1 := (ho5.lt g hg).1
        have h2 := hm.out.1.lt
        exact ⟨by omega, fun g' hg' => by have := (ho.out.1.lt g' hg').2; omega⟩
      have HNE5 := Lib.hid hne5
      have hzr := hbw.out.size
      obtain ⟨cn, hcn1, hcn2, hcn3⟩ := hcnt.out.step (hm.out.1.tidy keyI) hN0 hs.out.rise
      have HCN2 := Lib.hid hcn2
      have HCN3 := Lib.hid hcn3
      clear hcn2 hcn3
      clear ho5 hb5 hne5 hs hm ho hbw
      go_wp2_with fail
      rw [HXN.out]
      refine (append_any HS5.out N (by omega) A5 LB c5 b HLB.out HO5.out.rd (apart_addr HA5.out) (by have := hcnt.out.many; show bs.length < _; omega) (by omega) (fun k hk => by
        obtain ⟨cc, e1, e2, e3, _⟩ := hcnt.out.there k hk
        rw [e3, repn_len, HLB.out]
        have : cc * LB ≤ 12 * 11 := Nat.mul_le_mul (by omega) hlb2
        omega)).mono ?_
      intro e w6 h6
      obtain ⟨F6, rfl, hs6, hsc6⟩ := stEnd_is h6 (append_many N b bs hN0.1)
      have hO6 := keep_own hsc6 HO5.out HA5.out
      have hBO6 := keep_own hsc6 HBO5.out HAB.out
      have hM6 := trn_mapR hsc6.trn HM5.out HMF5.out
      have hMF6 := hsc6.out HM5.out.lt HMF5.out
      have hB6 := HB5.out.trans (HS5.out.bel hsc6)
      obtain ⟨g, rfl, hg1, hg2, _, hgc, hgf⟩ := hO6.1.block hlb0
      have hgc0 := hgc 0 hlb0
      have hgf0 := hgf 0
      obtain ⟨y0, hy0⟩ : ∃ y, b.getD 0 0 = y := ⟨_, rfl⟩
      rw [hy0] at hgc0
      have hgF : ¬ F6 g := hO6.2 g rfl
      obtain ⟨hgm, hgb⟩ := HNE5.out g rfl
      have ht7 : ∀ v, Trn w6 (w6.setCell ⟨g, 0, none⟩ v) (fun k => k = g) := fun v => (Trn.of_grown (setCell_one w6 g 0 v)).mono (fun k _ hk => by simp at hk; exact hk.symm)
      have HS7 := Lib.hid (fun v => hs6.kept (ht7 v) (fun k hk e => hgF (e ▸ hk)))
      have HM7 := Lib.hid (fun v => trn_mapR (ht7 v) hM6 (fun e => hgm e.symm))
      have HBO7 := Lib.hid (fun v => (ht7 v).own hBO6.1 (fun g' hg' e => hgb g' hg' e.symm))
      have HAB7 := Lib.hid hBO6.2
      have HMF7 := Lib.hid hMF6
      have HB7 := Lib.hid (fun v => (hB6.grown (setCell_one w6 g 0 v) hB6.size (fun k e => by cases e; omega)))
      clear h6 hs6 hsc6 hO6 hBO6 hM6 hMF6 hB6 hgc hgf hgF hgm hgb ht7 HS5 HM5 HBO5 HB5 HAB HMF5 HO5 HA5 HNE5 hy0
      have hlk : ∀ v, (Instr.lookup 27 (.map (some mc)) (.int .i64 N) false).run Try.prog (w6.setCell ⟨g, 0, none⟩ v) = .ok (.int .i64 (cn : Nat)) (w6.setCell ⟨g, 0, none⟩ v) := fun v => by
        obtain ⟨c', hrun, hat, _⟩ := (HM7.out v).lookup_int keyI Try.underlying27 Try.underlying3 (zeroI _) (keyN (n := N) (by omega) (by omega))
        rw [HCN2.out] at hat
        have hcc : (cn : Int) = c' := by injection hat with h1; injection h1
        rw [hrun, hcc]
      have hval : plainElem (H := Unit) Try.prog 3 (.int .i64 ((cn : Int) + 1)) = some (.lit (.int .i64 ((cn : Int) + 1)), []) := cntR_int (by omega) (by omega)
      have hkey := keyN (n := N) (by omega) (by omega)
      have HVAL := Lib.hid hval
      have HKEY := Lib.hid hkey
      clear hval hkey
      go_wp2_with (first | (at_mapUpdate; refine wpList_mapUpdate_own _ rfl _ _ _ 27 rfl 3 3 keyI Try.underlying27 (plainElem (H := Unit) Try.prog 3) mc i D rfl (HM7.out _) (by unfold maxLen; omega) _ _ (.int .i64 N) rfl rfl HKEY.out (.lit (.int .i64 ((cn : Int) + 1))) [] HVAL.out ?_; intro w8 hm8 hg8) | go_in)
      have hst8 := (HS7.out (.int .u8 ((y0 + 1) % 256))).kept (Trn.of_grown hg8) (fun k hk e => by cases e; exact HMF7.out hk)
      have hbo8 := (Trn.of_grown hg8).own (HBO7.out (.int .u8 ((y0 + 1) % 256))) (fun g' hg' e => by cases e; exact HMB.out _ hg' rfl)
      have hb8 := (HB7.out (.int .u8 ((y0 + 1) % 256))).grown hg8 (HB7.out (.int .u8 ((y0 + 1) % 256))).size (fun k e => by cases e; exact hmcW)
      have HM8 := Lib.hid hm8
      have HST8 := Lib.hid hst8
      have HBO8 := Lib.hid hbo8
      have HB8 := Lib.hid hb8
      clear hm8 hst8 hbo8 hb8 hg8
      refine ⟨⟨i + 1, F6, appB N b bs, _, hl1, by omega, by go_num, HST8, ⟨HM8.out, HMF7.out⟩, ⟨HBO8.out, HAB7.out⟩, HCN3, HB8⟩, ?_⟩
      simp [intOf]; omega
    · have hor : ¬ i < len0 ∨ (i < len0 ∧ ¬ i < 12) := by omega
      obtain ⟨M, hM⟩ : ∃ M, bs.length = M := ⟨_, rfl⟩
      obtain ⟨ns, hns⟩ : ∃ ns, bs.map (·.n) = ns := ⟨_, rfl⟩
      have hnl : ns.length = M := by rw [← hns, List.length_map]; exact hM
      have hrise := hs.out.rise
      have hBL := blocks_any hs.out (by have := hcnt.out.many; show bs.length ≤ _; omega)
      rw [show (⟨bs, false, 0, false⟩ : St).bs.map (·.n) = ns from hns] at hBL
      unfold BlEnd at hBL
      rw [hnl] at hBL
      have HBL := Lib.hid hBL
      have HNS := Lib.hid hns
      have HNL := Lib.hid hnl
      have HMM := Lib.hid hM
      have HRISE := Lib.hid hrise
      have hM12 : M ≤ 12 := by have := hcnt.out.many; omega
      clear hBL hns hnl hM hrise
      rcases hor with hx | ⟨hx, hy⟩
      all_goals
        go_wp2_with fail
        refine HBL.out.mono ?_
        rintro e w9 ⟨A6, c6, rfl, ho9, hb9⟩
        have HL9 := Lib.hid ho9
        have HS9 := Lib.hid (hs.out.later hb9)
        have HM9 := Lib.hid (trn_mapR (Trn.of_below (F := fun _ => False) hb9) hm.out.1 (fun h => h))
        have HO9 := Lib.hid (ho.out.1.later hb9)
        have HA9 := Lib.hid ho.out.2
        have HB9 := Lib.hid (hbw.out.trans (hb9.mono hbw.out.size))
        have hln : ∀ ty, (Builtin.len_ #[27] ty #[.map (some mc)]).run Try.prog w9 = .ok (.int .i64 (M : Nat)) w9 := fun ty => by
          have := HM9.out.len Try.underlying27 ty
          rw [hcnt.out.size, HMM.out] at this
          exact this
        clear ho9 hb9 hs hm ho hbw HBL
        go_wp2_with fail
        clear hln
        go_loopw [71] (fun vi wq => ∃ j : Nat, j ≤ M ∧ vi = .int .i64 j ∧ Hid (Below w9.heap.size w9 wq)) (fun vi _ => M - (intOf vi).toNat)
        case atStart => exact ⟨0, Nat.zero_le _, rfl, Below.refl _ _⟩
        case round =>
          obtain ⟨j, hj, rfl, hbq⟩ := hrel
          by_cases hjM : j < M
          · have j1 : (j : Int) < (M : Int) := by omega
            have j2 : (0 : Int) ≤ (j : Int) := by omega
            obtain ⟨gl, rfl, _, _, _, hlc, _⟩ := (HL9.out.later hbq.out).block (by omega)
            have hjb : j < bs.length := by rw [HMM.out]; exact hjM
            obtain ⟨k, hk⟩ : ∃ k, bs[j] = k := ⟨_, rfl⟩
            have hkm : k ∈ bs := by rw [← hk]; exact List.getElem_mem hjb
            have hnj : ∀ (i : Nat) (hi : i < bs.length), ns.getD i 0 = bs[i].n := fun i hi => by rw [← HNS.out]; simp [List.getD, hi]
            have hcj := hlc j hjM
            rw [hnj j hjb, hk] at hcj
            obtain ⟨c, hc1, hc2, hc3, hc4, hc5⟩ := hcnt.out.there k hkm
            obtain ⟨hk1, hk9⟩ := hcnt.out.keys k hkm
            obtain ⟨XL, hXL⟩ : ∃ n, k.xs.length = n := ⟨_, rfl⟩
            have hmul : c * LB = XL := by rw [← hXL, hc3, repn_len, HLB.out]
            have hXL1 : LB ≤ XL := by rw [← hmul]; exact Nat.le_mul_of_pos_left _ (by omega)
            have hXL2 : XL ≤ 12 * 11 := by rw [← hmul]; exact Nat.mul_le_mul (by omega) hlb2
            have hw1 : IntKind.i64.wrap ((c : Int) * (LB : Int)) = (XL : Int) := by rw [← hmul, IntKind.wrap_i64]; simp; omega
            obtain ⟨LO, hLO⟩ : ∃ n, XL - LB = n := ⟨_, rfl⟩
            have hlo : (XL : Int) - (LB : Int) = (LO : Int) := by omega
            have hlast : k.xs.drop LO = b := by rw [← hLO, ← hXL, ← HLB.out, hc3]; exact repn_last b c hc1
            obtain ⟨y0, hy0⟩ : ∃ y, k.xs.getD 0 0 = y := ⟨_, rfl⟩
            have hy1 : 0 ≤ y0 ∧ y0 < 256 := by
              have : y0 ∈ k.xs := by
                rw [← hy0]
                have h1 : 0 < k.xs.length := by omega
                simp [List.getD, h1]
              rw [hc3] at this
              exact HBY.out y0 (repn_mem this)
            have hlkc : ∀ V, Below w9.heap.size w9 V → (Instr.lookup 27 (.map (some mc)) (.int .i64 k.n) false).run Try.prog V = .ok (.int .i64 (c : Nat)) V := fun V hV => by
              obtain ⟨c', hrun, hat, _⟩ := (trn_mapR (Trn.of_below (F := fun _ => False) hV) HM9.out (fun h => h)).lookup_int keyI Try.underlying27 Try.underlying3 (zeroI _) (keyN (n := k.n) (by omega) (by omega))
              rw [hc4] at hat
              have hcc : (c : Int) = c' := by injection hat with h1; injection h1
              rw [hrun, hcc]
            have HLK := Lib.hid hlkc
            have HR := Lib.hid (read_some (HS9.out.later hbq.out) k hkm)
            have hprev : j = 0 ∨ (0 < j ∧ ∃ N', (∀ V, Below w9.heap.size w9 V → V.cell? ⟨gl, j - 1, none⟩ = some (.int .i64 N')) ∧ ¬ k.n ≤ N') := by
              by_cases hj0 : j = 0
              · exact .inl hj0
              · refine .inr ⟨by omega, bs[j - 1].n, fun V hV => ?_, ?_⟩
                · obtain ⟨gl', hgl', _, _, _, hlc', _⟩ := (HL9.out.later hV).block (by omega)
                  cases hgl'
                  have := hlc' (j - 1) (by omega)
                  rw [hnj (j - 1) (by omega)] at this
                  exact this
                · have := List.pairwise_iff_getElem.1 HRISE.out (j - 1) j (by omega) hjb (by omega)
                  rw [hk] at this
                  omega
            have HXL := Lib.hid hXL
            have HLAST := Lib.hid hlast
            have HY0 := Lib.hid hy0
            obtain ⟨N, hN⟩ : ∃ N, k.n = N := ⟨_, rfl⟩
            obtain ⟨xs, hxs⟩ : ∃ xs, k.xs = xs := ⟨_, rfl⟩
            rw [hN] at hcj HLK hprev hk1 hk9 HR
            rw [hxs] at HXL HLAST HY0 HR
            have hLOL : LO + LB = XL := by omega
            have hw2 : XL - LO = LB := by omega
            have HW2 := Lib.hid hw2
            have HRN := Lib.hid (show Calls Try.prog 15 #[.pointer (some ⟨p, 0, none⟩), .int .i64 N] wr (RdEnd wr xs) from HR.out)
            have HRD := Lib.hid (show ∀ V, Below w9.heap.size w9 V → Calls Try.prog 15 #[.pointer (some ⟨p, 0, none⟩), .int .i64 N] V (RdEnd V xs) from fun V hV => by
              have := read_some (HS9.out.later hV) k hkm
              rw [hN, hxs] at this
              exact this)
            have hnz : ((XL : Int) == 0) = false := by simp; omega
            have hne8 : (y0 == (y0 + 1) % 256) = false := by simp; omega
            have HNE8 := Lib.hid hne8
            clear hlkc hlc hnj hXL hlast hy0 hN hxs hc3 hc4 hc5 hkm hk hLO hmul hjb HR hw2 hne8
            rcases hprev with hj0 | ⟨hj0, N', hpc, hcmp⟩
            · subst hj0
              go_wp2_with fail
              refine HRN.out.mono ?_
              rintro e w10 ⟨A10, c10, rfl, ho, hb⟩
              rw [HXL.out] at ho ⊢
              obtain ⟨gx, rfl, hgx1, hgx2, _, hxc, hxf⟩ := ho.block (by omega)
              have hb10 : Below w9.heap.size w9 w10 := hbq.out.trans (hb.mono hbq.out.size)
              have hzq := hbq.out.size
              have hlk10 := HLK.out w10 hb10
              have hx0 := hxc 0 (by omega)
              rw [HY0.out] at hx0
              have hxf0 := hxf 0
              have hcx := ho.cap
              have hsl := slice_low gx XL c10 LO (by omega) (by omega)
              rw [HW2.out] at hsl
              have HX10 := Lib.hid ho
              have HB10 := Lib.hid hb10
              clear ho hb hxc hxf hb10
              go_wp2_with fail
              refine (same_true b HLB.out HLB.out (HLAST.out ▸ rd_drop HX10.out.rd LO) ((HO9.out.later HB10.out).rd) (by rw [HLB.out]; unfold maxLen; omega)).mono ?_
              rintro e w11 ⟨rfl, kq, rfl⟩
              have hx0q : (w10.drewN kq).cell? ⟨gx, 0, none⟩ = some (.int .u8 y0) := hx0
              have hxfq : (w10.drewN kq).frozen? ⟨gx, 0, none⟩ = false := hxf0
              have hb11 : ∀ v, Below w9.heap.size w9 ((w10.drewN kq).setCell ⟨gx, 0, none⟩ v) := fun v => (below_drewN' HB10.out kq).setCell (by show w9.heap.size ≤ gx; omega) v
              have HB11 := Lib.hid hb11
              have HRE := Lib.hid (HRD.out _ (hb11 (.int .u8 ((y0 + 1) % 256))))
              have hcell : ∀ v, ((w10.drewN kq).setCell ⟨gx, 0, none⟩ v).cell? ⟨gx, 0, none⟩ = some v := fun v => by go_simp
              have HCELL := Lib.hid hcell
              obtain ⟨w10q, hw10q⟩ : ∃ w, w = w10.drewN kq := ⟨_, rfl⟩
              rw [← hw10q] at hx0q hxfq HB11 HRE HCELL ⊢
              clear hb11 hcell hsl hlk10 hx0 hxf0 hw10q
              go_wp2_with fail
              refine HRE.out.mono ?_
              rintro e w12 ⟨A12, c12, rfl, ho, hb⟩
              rw [HXL.out] at ho ⊢
              obtain ⟨gy, rfl, hgy1, hgy2, _, hyc, _⟩ := ho.block (by omega)
              have hy0' := hyc 0 (by omega)
              rw [HY0.out] at hy0'
              have hx0' := cell_later hb (HCELL.out (.int .u8 ((y0 + 1) % 256)))
              have HB12 := Lib.hid ((HB11.out (.int .u8 ((y0 + 1) % 256))).trans (hb.mono (HB11.out _).size))
              have hne9 := HNE8.out
              have hlen0 : (0 : Int) < (XL : Int) := by omega
              clear ho hb hyc hx0q hxfq HB11 HRE HCELL
              go_wp2_with fail
              go_quiet (fail)
              have HB13 := Lib.hid (below_drewN' HB12.out nq)
              clear hy0' hx0' hne9 hlen0 HB12 HX10 HB10
              go_wp2_with fail
              go_roundw
              case rel => exact ⟨0 + 1, by omega, by first | go_num | rfl, HB13⟩
              case measure => simp [intOf]; omega
            · go_wp2_with fail
              refine HRN.out.mono ?_
              rintro e w10 ⟨A10, c10, rfl, ho, hb⟩
              rw [HXL.out] at ho ⊢
              obtain ⟨gx, rfl, hgx1, hgx2, _, hxc, hxf⟩ := ho.block (by omega)
              have hb10 : Below w9.heap.size w9 w10 := hbq.out.trans (hb.mono hbq.out.size)
              have hzq := hbq.out.size
              have hlk10 := HLK.out w10 hb10
              have hx0 := hxc 0 (by omega)
              rw [HY0.out] at hx0
              have hxf0 := hxf 0
              have hcx := ho.cap
              have hsl := slice_low gx XL c10 LO (by omega) (by omega)
              rw [HW2.out] at hsl
              have HX10 := Lib.hid ho
              have HB10 := Lib.hid hb10
              have hp10 := hpc w10 hb10
              clear ho hb hxc hxf hb10
              go_wp2_with fail
              refine (same_true b HLB.out HLB.out (HLAST.out ▸ rd_drop HX10.out.rd LO) ((HO9.out.later HB10.out).rd) (by rw [HLB.out]; unfold maxLen; omega)).mono ?_
              rintro e w11 ⟨rfl, kq, rfl⟩
              have hx0q : (w10.drewN kq).cell? ⟨gx, 0, none⟩ = some (.int .u8 y0) := hx0
              have hxfq : (w10.drewN kq).frozen? ⟨gx, 0, none⟩ = false := hxf0
              have hb11 : ∀ v, Below w9.heap.size w9 ((w10.drewN kq).setCell ⟨gx, 0, none⟩ v) := fun v => (below_drewN' HB10.out kq).setCell (by show w9.heap.size ≤ gx; omega) v
              have HB11 := Lib.hid hb11
              have HRE := Lib.hid (HRD.out _ (hb11 (.int .u8 ((y0 + 1) % 256))))
              have hcell : ∀ v, ((w10.drewN kq).setCell ⟨gx, 0, none⟩ v).cell? ⟨gx, 0, none⟩ = some v := fun v => by go_simp
              have HCELL := Lib.hid hcell
              obtain ⟨w10q, hw10q⟩ : ∃ w, w = w10.drewN kq := ⟨_, rfl⟩
              rw [← hw10q] at hx0q hxfq HB11 HRE HCELL ⊢
              clear hb11 hcell hsl hlk10 hx0 hxf0 hw10q
              go_wp2_with fail
              refine HRE.out.mono ?_
              rintro e w12 ⟨A12, c12, rfl, ho, hb⟩
              rw [HXL.out] at ho ⊢
              obtain ⟨gy, rfl, hgy1, hgy2, _, hyc, _⟩ := ho.block (by omega)
              have hy0' := hyc 0 (by omega)
              rw [HY0.out] at hy0'
              have hx0' := cell_later hb (HCELL.out (.int .u8 ((y0 + 1) % 256)))
              have HB12 := Lib.hid ((HB11.out (.int .u8 ((y0 + 1) % 256))).trans (hb.mono (HB11.out _).size))
              have hne9 := HNE8.out
              have hlen0 : (0 : Int) < (XL : Int) := by omega
              clear ho hb hyc hx0q hxfq HB11 HRE HCELL
              go_wp2_with fail
              go_quiet (fail)
              have HB13 := Lib.hid (below_drewN' HB12.out nq)
              clear hy0' hx0' hne9 hlen0 HB12 HX10 HB10
              go_wp2_with fail
              go_roundw
              case rel => exact ⟨j + 1, by omega, by first | go_num | rfl, HB13⟩
              case measure => simp [intOf]; omega
          · have hbq2 := hbq.out
            have hk9 := hcnt.out.keys
            have hsc := HS9.out.later hbq2
            have HSC := Lib.hid hsc
            have HCL := Lib.hid (clone_is hsc (by show bs.length < _; have := HMM.out; omega))
            have HBC := Lib.hid (HB9.out.trans (hbq2.mono HB9.out.size))
            have HOC := Lib.hid (HO9.out.later hbq2)
            have HN77 := Lib.hid (show ∀ k ∈ bs, k.n ≠ 77 from fun k hk => by have := hk9 k hk; omega)
            have HN0 := Lib.hid (show ∀ k ∈ bs, k.n ≠ 0 from fun k hk => by have := hk9 k hk; omega)
            have HN78 := Lib.hid (show ∀ k ∈ bs, k.n ≠ 78 from fun k hk => by have := hk9 k hk; omega)
            have HXS := Lib.hid (show ∀ k ∈ bs, k.xs.length ≤ 1099510579200 from fun k hk => by
              obtain ⟨cc, e1, e2, e3, _⟩ := hcnt.out.there k hk
              rw [e3, repn_len, HLB.out]
              have : cc * LB ≤ 12 * 11 := Nat.mul_le_mul (by omega) hlb2
              omega)
            clear hbq2 hk9 hsc hbq HS9 HO9 HB9 HM9 HL9
            go_wp2_with fail
            refine HCL.out.mono ?_
            rintro e w20 ⟨q, F2, rfl, hs2, hb2⟩
            have HS20 := Lib.hid hs2
            have HSC20 := Lib.hid (HSC.out.later hb2)
            have HOC20 := Lib.hid (HOC.out.later hb2)
            have HA20 := Lib.hid (apart_old hs2 HOC.out (Nat.le_refl _))
            have HBC20 := Lib.hid (HBC.out.trans (hb2.mono HBC.out.size))
            have hFF : ∀ k, F' k → ¬ F2 k := fun k hk hk2 => by have := (HSC.out.foot_lt k hk).2; have := (hs2.foot_lt k hk2).1; omega
            have HFF := Lib.hid hFF
            have hzc := HBC.out.size
            have HZC := Lib.hid hzc
            clear hs2 hb2 hFF hzc HSC HOC HBC HCL
            go_wp2_with fail
            refine (append_any HS20.out 77 (by omega) A2 LB c2 b HLB.out HOC20.out.rd (apart_addr HA20.out) (by show bs.length < _; have := HMM.out; omega) (by omega) HXS.out).mono ?_
            intro e w21 h21
            obtain ⟨F21, rfl, hs21, hsc21⟩ := stEnd_is h21 (append_many 77 b bs (by omega))
            have HS21 := Lib.hid (HSC20.out.kept hsc21.trn HFF.out)
            have HB21 := Lib.hid (HBC20.out.trans ((HS20.out.bel hsc21).mono HZC.out))
            clear h21 hs21 hsc21 HS20 HSC20 HOC20 HA20 HBC20 HFF
            go_wp2_with fail
            refine (read_none HS21.out 77 HN77.out (by omega) (by omega)).mono ?_
            rintro e w22 ⟨rfl, rfl⟩
            go_wp2_with fail
            refine (read_none HS21.out 0 HN0.out (by omega) (by omega)).mono ?_
            rintro e w23 ⟨rfl, rfl⟩
            go_wp2_with fail
            refine (stcut_any HS21.out 78 (by omega) 0).mono ?_
            intro e w24 h24
            obtain ⟨F24, rfl, hs24, hsc24⟩ := stEnd_is h24 (cut_no bs 78 0 (by omega) HN78.out)
            have HS24 := Lib.hid hs24
            have HB24 := Lib.hid (HB21.out.trans (HS21.out.bel hsc24))
            clear h24 hs24 hsc24 HS21 HB21
            go_wp2_with fail
            refine (sync_any HS24.out 78 (by omega)).mono ?_
            intro e w25 h25
            obtain ⟨F25, rfl, hs25, hsc25⟩ := stEnd_is h25 (sync_no bs 78 (by omega) HN78.out)
            have HS25 := Lib.hid hs25
            have HB25 := Lib.hid (HB24.out.trans (HS24.out.bel hsc25))
            clear h25 hs25 hsc25 HS24 HB24
            go_wp2_with fail
            refine (drop_any HS25.out 78 (by omega)).mono ?_
            intro e w26 h26
            obtain ⟨F26, rfl, hs26, hsc26⟩ := stEnd_is h26 (drop_no bs 78 (by omega) HN78.out)
            have HS26 := Lib.hid hs26
            have HB26 := Lib.hid (HB25.out.trans (HS25.out.bel hsc26))
            clear h26 hs26 hsc26 HS25 HB25
            go_wp2_with fail
            refine (drop_any HS26.out (-1) (by omega)).mono ?_
            intro e w27 h27
            obtain ⟨F27, rfl, hs27, hsc27⟩ := stEnd_is h27 (drop_neg bs (-1) (by omega))
            have HB27 := Lib.hid (HB26.out.trans (HS26.out.bel hsc27))
            clear h27 hs27 hsc27 HS26 HB26
            go_wp2_with fail
            refine (wakesS_any _).mono ?_
            rintro e w28 ⟨rfl, hb⟩
            have HB28 := Lib.hid (HB27.out.trans (hb.mono HB27.out.size))
            clear hb
            go_wp2_with fail
            go_ret
            exact ⟨rfl, HB28.out⟩
end Go.Proofs.Ytbjneoeiognahaa
