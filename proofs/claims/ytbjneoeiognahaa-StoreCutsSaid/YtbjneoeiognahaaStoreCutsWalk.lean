/-
  The walk of StoreCuts.
-/
import Derived.Test.YtbjneoeiognahaaStOne
import Derived.Test.YtbjneoeiognahaaBase
import Derived.Test.YtbjneoeiognahaaSameInt
import Derived.Deep.RegionHeld3
namespace Go.Proofs.Ytbjneoeiognahaa
open Go.RowKit Go.Maps

set_option maxRecDepth 100000 in
set_option maxHeartbeats 4000000 in
theorem storeCuts_walk (a0 : Option Addr) (len0 cap0 : Nat) (z0 : List Int) (a1 : Option Addr) (len1 cap1 : Nat) (z1 : List Int) (a2 a3 : Int) (W : World)
    (h0 : ArgI .u8 1 W a0 len0 cap0 z0) (h1 : ArgI .u8 1 W a1 len1 cap1 z1) (_ : (Lit.int .i64 a2).wf = true) (_ : (Lit.int .i64 a3).wf = true) :
    Calls Try.prog 7 #[.slice a0 len0 cap0, .slice a1 len1 cap1, .int .i64 a2, .int .i64 a3] W fun e W' => e = .returned (.bool true) ∧ Below W.heap.size W W' := by
  have hre0 := h0.reach
  have hre1 := h1.reach
  have hle0 := h0.le
  have hle1 := h1.le
  have H0 := Lib.hid h0
  have H1 := Lib.hid h1
  have HC0 := Lib.hid (Go.Proofs.Ytbjneoeiognahaa.cut_any a0 len0 cap0 30 z0 W h0.len h0.le h0.rd (by omega) (by omega) (by omega))
  clear h0 h1
  obtain ⟨xa, hxa⟩ : ∃ xa, z0.take 30 = xa := ⟨_, rfl⟩
  obtain ⟨xb, hxb⟩ : ∃ xb, z1.take 30 = xb := ⟨_, rfl⟩
  have hla : xa.length ≤ 30 := by rw [← hxa]; exact List.length_take_le _ _
  have hlb : xb.length ≤ 30 := by rw [← hxb]; exact List.length_take_le _ _
  obtain ⟨L0, hL0⟩ : ∃ n, xa.length = n := ⟨_, rfl⟩
  obtain ⟨LB, hLB⟩ : ∃ n, xb.length = n := ⟨_, rfl⟩
  rw [hL0] at hla
  rw [hLB] at hlb
  obtain ⟨N, hN, hN0⟩ := mod_nat a2 (L0 + 2)
  obtain ⟨K, hK, hK0⟩ := mod_nat a3 LB
  have HN := Lib.hid hN
  have HK := Lib.hid hK
  have HXA := Lib.hid hxa
  have HXB := Lib.hid hxb
  have HL0 := Lib.hid hL0
  have HLB := Lib.hid hLB
  clear hN hK hxa hxb hL0 hLB
  go_enter Try.func7, Try.ntmps7
  go_wp2_with fail
  refine HC0.out.mono ?_
  rintro e w1 ⟨A0, c0, rfl, ho, hb⟩
  rw [show (30 : Int).toNat = 30 from rfl, HXA.out] at ho ⊢
  rw [HL0.out] at ho ⊢
  have hal : Below w1.heap.size w1 (w1.alloc (.cells (bts [1, 2]) 5)) := (Below.refl _ _).alloc (Nat.le_refl _) _
  have HO := Lib.hid (ho.later hal)
  have HB := Lib.hid (hb.trans (hal.mono hb.size))
  have HZ := Lib.hid hb.size
  clear ho hb hal HC0
  go_wp2_with (at_builtin; refine wpList_app _ .u8 rfl (.tmp 17) (.tmp 18) 23 rfl 5 (.int .u8 0) 1 Try.underlying23 info_byte rfl W.heap.size (.slice A0 L0 c0) xa rfl HO.out (some ⟨w1.heap.size, 0, none⟩) 2 2 rfl [1, 2] rfl (lit_rd w1 [1, 2] (by simp [maxLen])) (by rw [HL0.out]; unfold maxLen; omega) (by rw [HL0.out]; omega) HB.out.size ?_; intro A2 c2 w2 ho2 hg2; rw [HL0.out] at ho2 ⊢; have HO2 := Lib.hid ho2; have HB2 := Lib.hid (HB.out.grown hg2 HB.out.size (fun k e => (HO.out.lt k e).1)); clear ho2 hg2)
  obtain ⟨xx, hxx⟩ : ∃ xx, xa ++ [1, 2] = xx := ⟨_, rfl⟩
  obtain ⟨LA, hLA⟩ : ∃ n, L0 + 2 = n := ⟨_, rfl⟩
  rw [hLA] at HO2 hN0 HN ⊢
  rw [hxx] at HO2
  have hxl : xx.length = LA := by rw [← hxx, List.length_append, HL0.out]; exact hLA
  have HLA := Lib.hid hxl
  have hla2 : LA ≤ 32 := by omega
  clear hxx hLA hxl HO HB
  refine (Go.Proofs.Ytbjneoeiognahaa.cut_any a1 len1 cap1 30 z1 w2 H1.out.len H1.out.le (H1.out.rd.later (HB2.out.mono (Nat.le_refl _))) (by omega) (by omega) (by omega)).mono ?_
  rintro e w3 ⟨A1, c1, rfl, ho, hb⟩
  rw [show (30 : Int).toNat = 30 from rfl, HXB.out] at ho ⊢
  rw [HLB.out] at ho ⊢
  have HO1 := Lib.hid (ho.less HB2.out.size)
  have HO0 := Lib.hid (HO2.out.later hb)
  have HB3 := Lib.hid (HB2.out.trans (hb.mono HB2.out.size))
  clear ho hb HO2 HB2
  go_wp2_with fail
  refine (within_any a2 ((LA : Int) + 1) w3 (by omega) (by omega)).mono ?_
  rw [HN.out]
  rintro e w' ⟨rfl, rfl⟩
  go_wp2_with fail
  refine (newst_any w3 w3.heap.size (Nat.le_refl _)).mono ?_
  rintro e w4 hn
  obtain ⟨p, F, rfl, hs, hb, hf⟩ := newst_is hn
  have HS := Lib.hid hs
  have HO04 := Lib.hid (HO0.out.later hb)
  have HO14 := Lib.hid (HO1.out.later hb)
  have HA0 := Lib.hid (apart_old hs HO0.out (Nat.le_refl _))
  have HA1 := Lib.hid (apart_old hs HO1.out (Nat.le_refl _))
  have HB4 := Lib.hid (HB3.out.trans (hb.mono HB3.out.size))
  have hsz := HB3.out.size
  have HZ3 := Lib.hid hsz
  clear hn hs hb hf HO0 HO1 HB3 hsz
  go_wp2_with fail
  refine (append_any HS.out 5 (by omega) A2 LA c2 xx HLA.out HO04.out.rd (apart_addr HA0.out) (by simp) (by omega) (fun k hk => by cases hk)).mono ?_
  intro e w5 h5
  obtain ⟨F5, rfl, hs5, hsc5⟩ := stEnd_is h5 (append_new 5 xx (by omega))
  have HS5 := Lib.hid hs5
  have HB5 := Lib.hid (HB4.out.trans ((HS.out.bel hsc5).mono HZ3.out))
  have HO05 := Lib.hid (keep_own hsc5 HO04.out HA0.out)
  have HO15 := Lib.hid (keep_own hsc5 HO14.out HA1.out)
  clear h5 hs5 hsc5 HS HB4 HO04 HO14 HA0 HA1
  go_wp2_with fail
  refine (stcut_any HS5.out 5 (by omega) ((LA : Int) + 1)).mono ?_
  intro e w6 h6
  obtain ⟨F6, rfl, hs6, hsc6⟩ := stEnd_is h6 (cut_bad 5 ((LA : Int) + 1) xx 0 false (by omega) (.inr (by rw [HLA.out]; omega)))
  have HS6 := Lib.hid hs6
  have HB6 := Lib.hid (HB5.out.trans ((HS5.out.bel hsc6).mono HZ3.out))
  have HO06 := Lib.hid (keep_own hsc6 HO05.out.1 HO05.out.2)
  have HO16 := Lib.hid (keep_own hsc6 HO15.out.1 HO15.out.2)
  clear h6 hs6 hsc6 HS5 HB5 HO05 HO15
  go_wp2_with fail
  refine (stcut_any HS6.out 5 (by omega) (-1)).mono ?_
  intro e w7 h7
  obtain ⟨F7, rfl, hs7, hsc7⟩ := stEnd_is h7 (cut_bad 5 (-1) xx 0 false (by omega) (.inl (by omega)))
  have HS7 := Lib.hid hs7
  have HB7 := Lib.hid (HB6.out.trans ((HS6.out.bel hsc7).mono HZ3.out))
  have HO07 := Lib.hid (keep_own hsc7 HO06.out.1 HO06.out.2)
  have HO17 := Lib.hid (keep_own hsc7 HO16.out.1 HO16.out.2)
  clear h7 hs7 hsc7 HS6 HB6 HO06 HO16
  go_wp2_with fail
  refine (stcut_any HS7.out 5 (by omega) (N : Int)).mono ?_
  intro e w8 h8
  obtain ⟨F8, rfl, hs8, hsc8⟩ := stEnd_is h8 (cut_ok 5 N xx 0 false (by omega) (by rw [HLA.out]; exact hN0))
  obtain ⟨X, hX⟩ : ∃ X, xx.take N = X := ⟨_, rfl⟩
  have hXl : X.length = N := by rw [← hX, List.length_take, HLA.out]; omega
  rw [hX] at hs8
  have hk8 := keep_own hsc8 (HO07.out.1.first hN0) (apart_len HO07.out.2)
  rw [hX] at hk8
  have HS8 := Lib.hid hs8
  have HB8 := Lib.hid (HB7.out.trans ((HS7.out.bel hsc8).mono HZ3.out))
  have hcap := (HO07.out.1).cap
  have HO08 := Lib.hid hk8
  have HO18 := Lib.hid (keep_own hsc8 HO17.out.1 HO17.out.2)
  have HXL := Lib.hid hXl
  clear h8 hs8 hsc8 hk8 HS7 HB7 HO07 HO17 hX hXl
  have hNc : (N : Int) ≤ (c2 : Int) := by omega
  go_wp2_with fail
  refine (crash_any HS8.out 0).mono ?_
  rintro e w9 ⟨F9, rfl, hs, hsc⟩
  rw [crash_one 5 X N N true false 0 false 0 (by rw [HXL.out]; simp) (by rw [HXL.out]; exact Nat.le_refl _) (.inl rfl), List.take_of_length_le (by rw [HXL.out]; exact Nat.le_refl _)] at hs
  have HS9 := Lib.hid hs
  have HB9 := Lib.hid (HB8.out.trans ((HS8.out.bel hsc).mono HZ3.out))
  have HO09 := Lib.hid (keep_own hsc HO08.out.1 HO08.out.2)
  have HO19 := Lib.hid (keep_own hsc HO18.out.1 HO18.out.2)
  clear hs hsc HS8 HB8 HO08 HO18
  go_wp2_with fail
  refine (read_some HS9.out ⟨5, X, N, true⟩ (by simp)).mono ?_
  rintro e w10 ⟨A10, c10, rfl, ho, hb⟩
  simp only [] at ho ⊢
  rw [HXL.out] at ho ⊢
  have HO10 := Lib.hid ho
  have HS10 := Lib.hid (HS9.out.later hb)
  have HO010 := Lib.hid (HO09.out.1.later hb)
  have HO110 := Lib.hid (HO19.out.1.later hb)
  have HA010 := Lib.hid HO09.out.2
  have HA110 := Lib.hid HO19.out.2
  have HB10 := Lib.hid (HB9.out.trans (hb.mono HB9.out.size))
  clear ho hb HS9 HO09 HO19 HB9
  go_wp2_with fail
  refine (same_true X HXL.out HXL.out HO10.out.rd HO010.out.rd (by rw [HXL.out]; unfold maxLen; omega)).mono ?_
  rintro e w11 ⟨rfl, kq, rfl⟩
  go_wp2_with fail
  refine (append_any (HS10.out.drewN kq) 5 (by omega) A1 LB c1 xb HLB.out (HO110.out.drewN kq).rd (apart_addr HA110.out) (by simp) (by omega) (fun k hk => by simp at hk; subst hk; show X.length ≤ _; rw [HXL.out]; omega)).mono ?_
  intro e w12 h12
  obtain ⟨F12, rfl, hs12, hsc12⟩ := stEnd_is h12 (append_one 5 X xb N true (by omega))
  have HS12 := Lib.hid hs12
  have HB12 := Lib.hid ((below_drewN' HB10.out kq).trans (((HS10.out.drewN kq).bel hsc12).mono HZ3.out))
  have HO012 := Lib.hid (keep_own hsc12 (HO010.out.drewN kq) HA010.out)
  have HO112 := Lib.hid (keep_own hsc12 (HO110.out.drewN kq) HA110.out)
  clear h12 hs12 hsc12 HS10 HB10 HO010 HO110 HA010 HA110 HO10
  go_wp2_with fail
  refine (within_any a3 ((LB : Int) + 1) w12 (by omega) (by omega)).mono ?_
  rw [HK.out]
  rintro e w' ⟨rfl, rfl⟩
  go_wp2_with fail
  refine (crash_any HS12.out (K : Int)).mono ?_
  rintro e w13 ⟨F13, rfl, hs, hsc⟩
  rw [crash_one 5 (X ++ xb) N (N + K) true false 0 false (K : Int) (by rw [List.length_append, HXL.out, HLB.out]; omega) (by rw [List.length_append, HXL.out, HLB.out]; omega) (.inl rfl),
    List.take_append, List.take_of_length_le (show X.length ≤ N + K by rw [HXL.out]; omega), HXL.out, show N + K - N = K by omega] at hs
  obtain ⟨Y, hY⟩ : ∃ Y, X ++ xb.take K = Y := ⟨_, rfl⟩
  have hYl : Y.length = N + K := by rw [← hY, List.length_append, List.length_take, HXL.out, HLB.out]; omega
  rw [hY] at hs
  have HS13 := Lib.hid hs
  have HB13 := Lib.hid (HB12.out.trans ((HS12.out.bel hsc).mono HZ3.out))
  have HO013 := Lib.hid (keep_own hsc HO012.out.1 HO012.out.2)
  have HO113 := Lib.hid (keep_own hsc HO112.out.1 HO112.out.2)
  have HYL := Lib.hid hYl
  have HY := Lib.hid hY
  have hcb := HO112.out.1.cap
  have hKc : (K : Int) ≤ (c1 : Int) := by omega
  clear hs hsc HS12 HB12 HO012 HO112 hY hYl
  go_wp2_with fail
  refine (read_some HS13.out ⟨5, Y, N + K, true⟩ (by simp)).mono ?_
  rintro e w14 ⟨A14, c14, rfl, ho, hb⟩
  simp only [] at ho ⊢
  rw [HYL.out] at ho ⊢
  have HO14 := Lib.hid ho
  have HS14 := Lib.hid (HS13.out.later hb)
  have HO014 := Lib.hid (HO013.out.1.later hb)
  have HO114 := Lib.hid (HO113.out.1.later hb)
  have HA114 := Lib.hid HO113.out.2
  have HB14 := Lib.hid (HB13.out.trans (hb.mono HB13.out.size))
  clear ho hb HS13 HO013 HO113 HB13
  go_wp2_with fail
  have hkl : (xb.take K).length = K := by rw [List.length_take, HLB.out]; omega
  have HKL := Lib.hid hkl
  clear hkl
  go_region_held3 (fun wi => SinceC w14 wi)
    (first
      | exact (Below.refl _ _).drew
      | assumption)
    (first
      | (go_at_call 12; refine (Go.Proofs.Ytbjneoeiognahaa.copy_any A2 N c2 X _ HXL.out (Own.rd (Own.later HO014.out ‹SinceC w14 _›)) (by omega)).mono ?_; rintro e w' ⟨P, cp, rfl, hp, hb⟩
         have hs14 : w14.heap.size ≤ _ := Below.size (show Below w14.heap.size w14 _ from ‹SinceC w14 _›)
         have hS1 : SinceC w14 w' := Below.trans ‹SinceC w14 _› (hb.mono hs14)
         replace hp := hp.less hs14)
      | (refine step_app _ .u8 (by rfl) (.tmp 98) (.tmp 101) 23 rfl 5 (.int .u8 0) 1 Try.underlying23 info_byte rfl w14.heap.size (.slice P N cp) X N HXL.out rfl hp A1 K c1 rfl (xb.take K) HKL.out ((Own.later HO114.out hS1).rd.take K) (by unfold maxLen; omega) (by omega) hS1.size ?_
         intro A9 c9 w9' ho9 hg9 hb9
         rw [HY.out] at ho9
         have hS2 : SinceC w14 w9' := Below.trans hS1 hb9)
      | (go_at_call 16; refine (same_true Y HYL.out HYL.out (Own.rd (Own.later HO14.out hS2)) ho9.rd (by rw [HYL.out]; unfold maxLen; omega)).mono ?_; rintro e w10' ⟨rfl, kr, rfl⟩
         have hS3 : SinceC w14 (w9'.drewN kr) := below_drewN' hS2 kr))
  have HS15 := Lib.hid (HS14.out.later hS3)
  have HB15 := Lib.hid (HB14.out.trans (hS3.mono HB14.out.size))
  have HO15 := Lib.hid (HO114.out.later hS3)
  have HA15 := HA114
  clear hS1 hS2 hS3 hb hp ho9 hg9 hb9 hs14 HS14 HB14 HO114 HO14 HO014 HA114
  obtain ⟨wq, hwq⟩ : ∃ wq, wq = w9'.drewN kr := ⟨_, rfl⟩
  rw [← hwq] at HS15 HB15 HO15 ⊢
  clear hwq
  go_wp2_with fail
  refine (read_none HS15.out 6 (fun k hk => by simp at hk; subst hk; simp) (by omega) (by omega)).mono ?_
  rintro e w16 ⟨rfl, rfl⟩
  go_wp2_with fail
  refine (drop_any HS15.out 5 (by omega)).mono ?_
  intro e w17 h17
  obtain ⟨F17, rfl, hs17, hsc17⟩ := stEnd_is h17 (drop_one 5 Y (N + K) true (by omega))
  have HS17 := Lib.hid hs17
  have HB17 := Lib.hid (HB15.out.trans ((HS15.out.bel hsc17).mono HZ3.out))
  have HO17 := Lib.hid (keep_own hsc17 HO15.out HA15.out)
  clear h17 hs17 hsc17 HS15 HB15 HO15 HA15
  go_wp2_with fail
  refine (blocks_any HS17.out (by simp)).mono ?_
  rintro e w18 ⟨A18, c18, rfl, ho, hb⟩
  have HS18 := Lib.hid (HS17.out.later hb)
  have HB18 := Lib.hid (HB17.out.trans (hb.mono HB17.out.size))
  have HO18 := Lib.hid (HO17.out.1.later hb)
  have HA18 := Lib.hid HO17.out.2
  clear ho hb HS17 HB17 HO17
  simp only [List.map_nil, List.length_nil]
  go_wp2_with fail
  refine (append_any HS18.out 5 (by omega) A1 LB c1 xb HLB.out HO18.out.rd (apart_addr HA18.out) (by simp) (by omega) (fun k hk => by cases hk)).mono ?_
  intro e w19 h19
  obtain ⟨F19, rfl, hs19, hsc19⟩ := stEnd_is h19 (append_new 5 xb (by omega))
  have HS19 := Lib.hid hs19
  have HB19 := Lib.hid (HB18.out.trans ((HS18.out.bel hsc19).mono HZ3.out))
  clear h19 hs19 hsc19 HS18 HB18 HO18 HA18
  go_wp2_with fail
  refine (blocks_any HS19.out (by simp)).mono ?_
  rintro e w20 ⟨A20, c20, rfl, ho, hb⟩
  simp only [List.map_cons, List.map_nil, List.length_cons, List.length_nil, Nat.zero_add] at ho ⊢
  have HO20 := Lib.hid ho
  have HB20 := Lib.hid (HB19.out.trans (hb.mono HB19.out.size))
  clear ho hb HS19 HB19
  go_wp2_with fail
  have hal : Below w20.heap.size w20 (w20.alloc (.cells #[.int .i64 5] 3)) := (Below.refl _ _).alloc (Nat.le_refl _) _
  refine (sameI_true [5] rfl rfl ((HO20.out.later hal).rd) (.inr ⟨w20.heap.size, 0, rfl, fun i hi => by
    have : i = 0 := by simp at hi; omega
    subst this
    go_simp⟩) (by simp [maxLen])).mono ?_
  rintro e w21 ⟨rfl, ks, rfl⟩
  have HB21 := Lib.hid (below_drewN' (HB20.out.trans (hal.mono HB20.out.size)) ks)
  clear hal
  go_wp2_with fail
  refine (wakesS_any _).mono ?_
  rintro e w22 ⟨rfl, hb⟩
  have HB22 := Lib.hid (HB21.out.trans (hb.mono HB21.out.size))
  clear hb
  go_wp2_with fail
  go_ret
  exact ⟨rfl, HB22.out⟩
end Go.Proofs.Ytbjneoeiognahaa
