/-
  The walk of StoreTears.
-/
import Derived.Test.YtbjneoeiognahaaStOne
import Derived.Test.YtbjneoeiognahaaBase
namespace Go.Proofs.Ytbjneoeiognahaa
open Go.RowKit Go.Maps

set_option maxRecDepth 100000 in
set_option maxHeartbeats 4000000 in
theorem storeTears_walk (a0 : Option Addr) (len0 cap0 : Nat) (z0 : List Int) (a1 : Option Addr) (len1 cap1 : Nat) (z1 : List Int) (a2 a3 : Int) (a4 : Bool) (W : World)
    (h0 : ArgI .u8 1 W a0 len0 cap0 z0) (h1 : ArgI .u8 1 W a1 len1 cap1 z1) (_ : (Lit.int .i64 a2).wf = true) (_ : (Lit.int .i64 a3).wf = true) :
    Calls Try.prog 5 #[.slice a0 len0 cap0, .slice a1 len1 cap1, .int .i64 a2, .int .i64 a3, .bool a4] W fun e W' => e = .returned (.bool true) ∧ Below W.heap.size W W' := by
  have hre0 := h0.reach
  have hre1 := h1.reach
  have hle0 := h0.le
  have hle1 := h1.le
  have H0 := Lib.hid h0
  have H1 := Lib.hid h1
  have HC0 := Lib.hid (Go.Proofs.Ytbjneoeiognahaa.cut_any a0 len0 cap0 40 z0 W h0.len h0.le h0.rd (by omega) (by omega) (by omega))
  clear h0 h1
  obtain ⟨xa, hxa⟩ : ∃ xa, z0.take 40 = xa := ⟨_, rfl⟩
  obtain ⟨xb, hxb⟩ : ∃ xb, z1.take 40 = xb := ⟨_, rfl⟩
  have hla : xa.length ≤ 40 := by rw [← hxa]; exact List.length_take_le _ _
  have hlb : xb.length ≤ 40 := by rw [← hxb]; exact List.length_take_le _ _
  obtain ⟨LA, hLA⟩ : ∃ n, xa.length = n := ⟨_, rfl⟩
  obtain ⟨LB, hLB⟩ : ∃ n, xb.length = n := ⟨_, rfl⟩
  obtain ⟨N, hN⟩ : ∃ N : Int, a3 % 1000 = N := ⟨_, rfl⟩
  have hN0 : 0 ≤ N ∧ N < 1000 := by omega
  obtain ⟨KP, hKP⟩ : ∃ N : Int, a2 % 100 = N := ⟨_, rfl⟩
  have hKP0 : 0 ≤ KP ∧ KP < 100 := by omega
  rw [hLA] at hla
  rw [hLB] at hlb
  obtain ⟨K1, hK1⟩ : ∃ K : Nat, min KP ((LA : Int) + LB) = (K : Int) := ⟨(min KP ((LA : Int) + LB)).toNat, by omega⟩
  obtain ⟨K2, hK2⟩ : ∃ K : Nat, min KP (LB : Int) = (K : Int) := ⟨(min KP (LB : Int)).toNat, by omega⟩
  have m1 := run_min2 KP ((LA : Int) + LB) K1 hK1.symm
  have m2 := run_min2 KP (LB : Int) K2 hK2.symm
  have hk1 : (0 : Nat) + (min (max KP 0) (((LA + LB : Nat) : Int) - (0 : Nat))).toNat = K1 := by omega
  have hk2 : LA + (min (max KP 0) (((LA + LB : Nat) : Int) - (LA : Nat))).toNat = LA + K2 := by omega
  have hkl1 : K1 ≤ LA + LB := by omega
  have hkl2 : K2 ≤ LB := by omega
  have HK1 := Lib.hid hk1
  have HK2 := Lib.hid hk2
  have HN := Lib.hid hN
  have HKP := Lib.hid hKP
  have HXA := Lib.hid hxa
  have HXB := Lib.hid hxb
  have HLA := Lib.hid hLA
  have HLB := Lib.hid hLB
  clear hK1 hK2 hk1 hk2 hN hKP hxa hxb hLA hLB
  cases a4
  · by_cases hk0 : K1 = 0
    · subst hk0
      go_enter Try.func5, Try.ntmps5
      go_wp2_with fail
      refine HC0.out.mono ?_
      rintro e w1 ⟨A0, c0, rfl, ho, hb⟩
      rw [show (40 : Int).toNat = 40 from rfl, HXA.out] at ho ⊢
      rw [HLA.out] at ho ⊢
      have HO0 := Lib.hid ho
      have HB := Lib.hid hb
      have HC1 := Lib.hid (Go.Proofs.Ytbjneoeiognahaa.cut_any a1 len1 cap1 40 z1 w1 H1.out.len H1.out.le (H1.out.rd.later hb) (by omega) (by omega) (by omega))
      clear ho hb
      go_wp2_with fail
      refine HC1.out.mono ?_
      rintro e w2 ⟨A1, c1, rfl, ho, hb⟩
      rw [show (40 : Int).toNat = 40 from rfl, HXB.out] at ho ⊢
      rw [HLB.out] at ho ⊢
      have HO1 := Lib.hid (ho.less HB.out.size)
      have HO02 := Lib.hid (HO0.out.later hb)
      have HB2 := Lib.hid (HB.out.trans (hb.mono HB.out.size))
      clear ho hb HC1 HO0 HB
      go_wp2_with fail
      refine (within_any a3 1000 w2 (by omega) (by omega)).mono ?_
      rw [HN.out]
      rintro e w' ⟨rfl, rfl⟩
      go_wp2_with fail
      refine (newst_any w2 w2.heap.size (Nat.le_refl _)).mono ?_
      rintro e w3 hn
      obtain ⟨p, F, rfl, hs, hb, hf⟩ := newst_is hn
      have HS := Lib.hid hs
      have HO0 := Lib.hid (HO02.out.later hb)
      have HO13 := Lib.hid (HO1.out.later hb)
      have HA0 := Lib.hid (apart_old hs HO02.out (Nat.le_refl _))
      have HA1 := Lib.hid (apart_old hs HO1.out (Nat.le_refl _))
      have HB := Lib.hid (HB2.out.trans (hb.mono HB2.out.size))
      have hsz := HB2.out.size
      have HZ2 := Lib.hid hsz
      clear hn hs hb hf HO02 HO1 HB2 hsz
      go_wp2_with fail
      have ha := append_any HS.out (1 + N) (by omega) A0 LA c0 xa HLA.out HO0.out.rd (apart_addr HA0.out) (by simp) (by omega) (fun k hk => by cases hk)
      have HA := Lib.hid ha
      clear ha
      refine HA.out.mono ?_
      intro e w4 h4
      obtain ⟨F4, rfl, hs4, hsc4⟩ := stEnd_is h4 (append_new (1 + N) xa (by omega))
      have HS4 := Lib.hid hs4
      have HB4 := Lib.hid (HB.out.trans ((HS.out.bel hsc4).mono HZ2.out))
      have HO04 := Lib.hid (keep_own hsc4 HO0.out HA0.out)
      have HO14 := Lib.hid (keep_own hsc4 HO13.out HA1.out)
      clear h4 hs4 hsc4 HA HS HO0 HO13 HA0 HA1 HB
      go_wp2_with fail
      have HS5 := HS4
      have HB5 := HB4
      have HO05 := HO04
      have HO15 := HO14
      clear HS4 HB4 HO04 HO14
      have ha := append_any HS5.out (1 + N) (by omega) A1 LB c1 xb HLB.out HO15.out.1.rd (apart_addr HO15.out.2) (by simp) (by omega) (fun k hk => by simp at hk; subst hk; show xa.length ≤ _; rw [HLA.out]; omega)
      have HA := Lib.hid ha
      clear ha
      refine HA.out.mono ?_
      intro e w6 h6
      obtain ⟨F6, rfl, hs6, hsc6⟩ := stEnd_is h6 (append_one (1 + N) xa xb 0 false (by omega))
      have HS6 := Lib.hid hs6
      have HB6 := Lib.hid (HB5.out.trans ((HS5.out.bel hsc6).mono HZ2.out))
      have HO06 := Lib.hid (keep_own hsc6 HO05.out.1 HO05.out.2)
      have HO16 := Lib.hid (keep_own hsc6 HO15.out.1 HO15.out.2)
      clear h6 hs6 hsc6 HA HS5 HB5 HO05 HO15
      go_wp2_with fail
      refine (within_any a2 100 w6 (by omega) (by omega)).mono ?_
      rw [HKP.out]
      rintro e w' ⟨rfl, rfl⟩
      go_wp2_with fail
      refine (Go.Proofs.Ytbjneoeiognahaa.copy_any A0 LA c0 xa w6 HLA.out HO06.out.1.rd (by omega)).mono ?_
      rintro e w7 ⟨A7, c7, rfl, ho7, hb7⟩
      have HO7 := Lib.hid ho7
      have HA7 := Lib.hid (apart_new HS6.out ho7)
      have HS7 := Lib.hid (HS6.out.later hb7)
      have HB7 := Lib.hid (HB6.out.trans (hb7.mono HB6.out.size))
      have HO17 := Lib.hid (HO16.out.1.later hb7)
      have HZ7 := Lib.hid hb7.size
      clear ho7 hb7 HB6 HO06 HO16
      go_wp2_with (at_builtin; refine wpList_app _ .u8 rfl (.tmp 54) (.tmp 55) 23 rfl 5 (.int .u8 0) 1 Try.underlying23 info_byte rfl w6.heap.size (.slice A7 LA c7) xa rfl HO7.out A1 LB c1 rfl xb HLB.out HO17.out.rd (by rw [HLA.out]; unfold maxLen; omega) (by rw [HLA.out]; omega) HZ7.out ?_; intro A8 c8 w8 ho8 hg8; rw [HLA.out] at ho8 ⊢; have HO8 := Lib.hid ho8; have HG8 := Lib.hid hg8; clear ho8 hg8)
      have HS8 := Lib.hid (HS7.out.kept (Trn.of_grown HG8.out) (fun k hk e => HA7.out k e hk))
      have HA8 := Lib.hid (apart_new HS6.out HO8.out)
      have HB8 := Lib.hid (HB7.out.grown HG8.out HB7.out.size (fun k e => by have h9 := (HO7.out.lt k e).1; have h8 := HS6.out.size; have h7 := HZ2.out; omega))
      have hcap := HO8.out.cap
      clear HS6 HO7 HA7 HS7 HB7 HO17 HZ7 HG8
      refine (crash_any HS8.out KP).mono ?_
      rintro e w9 ⟨F9, rfl, hs9, hsc9⟩
      rw [crash_gone (1 + N) (xa ++ xb) 0 false 0 false KP (by rw [List.length_append, HLA.out, HLB.out]; exact HK1.out)] at hs9
      have hal := HO8.out.first (Nat.zero_le (LA + LB))
      rw [List.take_zero] at hal
      have hk9 := keep_own hsc9 hal (apart_len HA8.out)
      have HS9 := Lib.hid hs9
      have HB9 := Lib.hid (HB8.out.trans ((HS8.out.bel hsc9).mono HZ2.out))
      have HO9 := Lib.hid hk9
      clear hs9 hsc9 hal hk9 HS8 HB8 HO8 HA8
      go_wp2_with fail
      refine (read_none HS9.out (1 + N) (fun k hk => by cases hk) (by omega) (by omega)).mono ?_
      rintro e w10 ⟨rfl, rfl⟩
      go_wp2_with fail
      refine (crash_any HS9.out 0).mono ?_
      rintro e w11 ⟨F11, rfl, hs, hsc⟩
      rw [crash_nil] at hs
      have HS11 := Lib.hid hs
      have HB11 := Lib.hid (HB9.out.trans ((HS9.out.bel hsc).mono HZ2.out))
      have HO12 := Lib.hid (keep_own hsc HO9.out.1 HO9.out.2).1
      clear hs hsc HS9 HB9 HO9
      go_wp2_with fail
      refine (read_none HS11.out (1 + N) (fun k hk => by cases hk) (by omega) (by omega)).mono ?_
      rintro e w12 ⟨rfl, rfl⟩
      go_wp2_with fail
      refine (same_true [] rfl rfl (.inl rfl) HO12.out.rd (by simp)).mono ?_
      rintro e w13 ⟨rfl, kq, rfl⟩
      go_wp2_with fail
      refine (same_true [] rfl rfl (.inl rfl) (.inl rfl) (by simp)).mono ?_
      rintro e w14 ⟨rfl, kr, rfl⟩
      have HS14 := Lib.hid (HS11.out.drewN (kq + kr))
      have HB14 := Lib.hid (below_drewN' HB11.out (kq + kr))
      go_wp2_with fail
      refine (dead_is HS14.out).mono ?_
      rintro e w15 ⟨rfl, rfl⟩
      go_wp2_with fail
      refine (wakesS_any _).mono ?_
      rintro e w16 ⟨rfl, hb⟩
      have HB16 := Lib.hid (HB14.out.trans (hb.mono HB14.out.size))
      clear hb
      go_wp2_with fail
      go_ret
      exact ⟨rfl, HB16.out⟩
    · go_enter Try.func5, Try.ntmps5
      go_wp2_with fail
      refine HC0.out.mono ?_
      rintro e w1 ⟨A0, c0, rfl, ho, hb⟩
      rw [show (40 : Int).toNat = 40 from rfl, HXA.out] at ho ⊢
      rw [HLA.out] at ho ⊢
      have HO0 := Lib.hid ho
      have HB := Lib.hid hb
      have HC1 := Lib.hid (Go.Proofs.Ytbjneoeiognahaa.cut_any a1 len1 cap1 40 z1 w1 H1.out.len H1.out.le (H1.out.rd.later hb) (by omega) (by omega) (by omega))
      clear ho hb
      go_wp2_with fail
      refine HC1.out.mono ?_
      rintro e w2 ⟨A1, c1, rfl, ho, hb⟩
      rw [show (40 : Int).toNat = 40 from rfl, HXB.out] at ho ⊢
      rw [HLB.out] at ho ⊢
      have HO1 := Lib.hid (ho.less HB.out.size)
      have HO02 := Lib.hid (HO0.out.later hb)
      have HB2 := Lib.hid (HB.out.trans (hb.mono HB.out.size))
      clear ho hb HC1 HO0 HB
      go_wp2_with fail
      refine (within_any a3 1000 w2 (by omega) (by omega)).mono ?_
      rw [HN.out]
      rintro e w' ⟨rfl, rfl⟩
      go_wp2_with fail
      refine (newst_any w2 w2.heap.size (Nat.le_refl _)).mono ?_
      rintro e w3 hn
      obtain ⟨p, F, rfl, hs, hb, hf⟩ := newst_is hn
      have HS := Lib.hid hs
      have HO0 := Lib.hid (HO02.out.later hb)
      have HO13 := Lib.hid (HO1.out.later hb)
      have HA0 := Lib.hid (apart_old hs HO02.out (Nat.le_refl _))
      have HA1 := Lib.hid (apart_old hs HO1.out (Nat.le_refl _))
      have HB := Lib.hid (HB2.out.trans (hb.mono HB2.out.size))
      have hsz := HB2.out.size
      have HZ2 := Lib.hid hsz
      clear hn hs hb hf HO02 HO1 HB2 hsz
      go_wp2_with fail
      have ha := append_any HS.out (1 + N) (by omega) A0 LA c0 xa HLA.out HO0.out.rd (apart_addr HA0.out) (by simp) (by omega) (fun k hk => by cases hk)
      have HA := Lib.hid ha
      clear ha
      refine HA.out.mono ?_
      intro e w4 h4
      obtain ⟨F4, rfl, hs4, hsc4⟩ := stEnd_is h4 (append_new (1 + N) xa (by omega))
      have HS4 := Lib.hid hs4
      have HB4 := Lib.hid (HB.out.trans ((HS.out.bel hsc4).mono HZ2.out))
      have HO04 := Lib.hid (keep_own hsc4 HO0.out HA0.out)
      have HO14 := Lib.hid (keep_own hsc4 HO13.out HA1.out)
      clear h4 hs4 hsc4 HA HS HO0 HO13 HA0 HA1 HB
      go_wp2_with fail
      have HS5 := HS4
      have HB5 := HB4
      have HO05 := HO04
      have HO15 := HO14
      clear HS4 HB4 HO04 HO14
      have ha := append_any HS5.out (1 + N) (by omega) A1 LB c1 xb HLB.out HO15.out.1.rd (apart_addr HO15.out.2) (by simp) (by omega) (fun k hk => by simp at hk; subst hk; show xa.length ≤ _; rw [HLA.out]; omega)
      have HA := Lib.hid ha
      clear ha
      refine HA.out.mono ?_
      intro e w6 h6
      obtain ⟨F6, rfl, hs6, hsc6⟩ := stEnd_is h6 (append_one (1 + N) xa xb 0 false (by omega))
      have HS6 := Lib.hid hs6
      have HB6 := Lib.hid (HB5.out.trans ((HS5.out.bel hsc6).mono HZ2.out))
      have HO06 := Lib.hid (keep_own hsc6 HO05.out.1 HO05.out.2)
      have HO16 := Lib.hid (keep_own hsc6 HO15.out.1 HO15.out.2)
      clear h6 hs6 hsc6 HA HS5 HB5 HO05 HO15
      go_wp2_with fail
      refine (within_any a2 100 w6 (by omega) (by omega)).mono ?_
      rw [HKP.out]
      rintro e w' ⟨rfl, rfl⟩
      go_wp2_with fail
      refine (Go.Proofs.Ytbjneoeiognahaa.copy_any A0 LA c0 xa w6 HLA.out HO06.out.1.rd (by omega)).mono ?_
      rintro e w7 ⟨A7, c7, rfl, ho7, hb7⟩
      have HO7 := Lib.hid ho7
      have HA7 := Lib.hid (apart_new HS6.out ho7)
      have HS7 := Lib.hid (HS6.out.later hb7)
      have HB7 := Lib.hid (HB6.out.trans (hb7.mono HB6.out.size))
      have HO17 := Lib.hid (HO16.out.1.later hb7)
      have HZ7 := Lib.hid hb7.size
      clear ho7 hb7 HB6 HO06 HO16
      go_wp2_with (at_builtin; refine wpList_app _ .u8 rfl (.tmp 54) (.tmp 55) 23 rfl 5 (.int .u8 0) 1 Try.underlying23 info_byte rfl w6.heap.size (.slice A7 LA c7) xa rfl HO7.out A1 LB c1 rfl xb HLB.out HO17.out.rd (by rw [HLA.out]; unfold maxLen; omega) (by rw [HLA.out]; omega) HZ7.out ?_; intro A8 c8 w8 ho8 hg8; rw [HLA.out] at ho8 ⊢; have HO8 := Lib.hid ho8; have HG8 := Lib.hid hg8; clear ho8 hg8)
      have HS8 := Lib.hid (HS7.out.kept (Trn.of_grown HG8.out) (fun k hk e => HA7.out k e hk))
      have HA8 := Lib.hid (apart_new HS6.out HO8.out)
      have HB8 := Lib.hid (HB7.out.grown HG8.out HB7.out.size (fun k e => by have h9 := (HO7.out.lt k e).1; have h8 := HS6.out.size; have h7 := HZ2.out; omega))
      have hcap := HO8.out.cap
      clear HS6 HO7 HA7 HS7 HB7 HO17 HZ7 HG8
      refine (crash_any HS8.out KP).mono ?_
      rintro e w9 ⟨F9, rfl, hs9, hsc9⟩
      obtain ⟨K, hK⟩ : ∃ K, K1 = K := ⟨_, rfl⟩
      rw [crash_one (1 + N) (xa ++ xb) 0 K false false 0 false KP (by rw [List.length_append, HLA.out, HLB.out, ← hK]; exact HK1.out) (by rw [List.length_append, HLA.out, HLB.out]; omega) (.inr (by omega))] at hs9
      have hKl : K ≤ LA + LB := by omega
      have hKc : (K : Int) ≤ (c8 : Int) := by omega
      obtain ⟨X, hX⟩ : ∃ X, (xa ++ xb).take K = X := ⟨_, rfl⟩
      have hXl : X.length = K := by rw [← hX, List.length_take, List.length_append, HLA.out, HLB.out]; omega
      rw [hX] at hs9
      have hal := HO8.out.first hKl
      rw [hX] at hal
      have hk9 := keep_own hsc9 hal (apart_len HA8.out)
      have HS9 := Lib.hid hs9
      have HB9 := Lib.hid (HB8.out.trans ((HS8.out.bel hsc9).mono HZ2.out))
      have HO9 := Lib.hid hk9
      have HXL := Lib.hid hXl
      have HKE := Lib.hid hK
      clear hs9 hsc9 hal hk9 hX hXl HS8 HB8 HO8 HA8
      go_wp2_with fail
      refine (read_some HS9.out ⟨1 + N, X, K, true⟩ (by simp)).mono ?_
      rintro e w10 ⟨A10, c10, rfl, ho, hb⟩
      simp only [] at ho ⊢
      rw [HXL.out] at ho ⊢
      have HO10 := Lib.hid ho
      have HA10 := Lib.hid (apart_new HS9.out ho)
      have HS10 := Lib.hid (HS9.out.later hb)
      have HO910 := Lib.hid (HO9.out.1.later hb)
      have HB10 := Lib.hid (HB9.out.trans (hb.mono HB9.out.size))
      have HA910 := Lib.hid HO9.out.2
      clear ho hb HS9 HO9 HB9
      go_wp2_with fail
      refine (crash_any HS10.out 0).mono ?_
      rintro e w11 ⟨F11, rfl, hs, hsc⟩
      rw [crash_one (1 + N) X K K true false 0 false 0 (by rw [HXL.out]; simp) (by rw [HXL.out]; exact Nat.le_refl _) (.inl rfl), List.take_of_length_le (by rw [HXL.out]; exact Nat.le_refl _)] at hs
      have HS11 := Lib.hid hs
      have HB11 := Lib.hid (HB10.out.trans ((HS10.out.bel hsc).mono HZ2.out))
      have HO11 := Lib.hid (keep_own hsc HO10.out HA10.out).1
      have HO12 := Lib.hid (keep_own hsc HO910.out HA910.out).1
      clear hs hsc HS10 HB10 HO10 HA10 HO910 HA910
      go_wp2_with fail
      refine (read_some HS11.out ⟨1 + N, X, K, true⟩ (by simp)).mono ?_
      rintro e w12 ⟨A12, c12, rfl, ho, hb⟩
      simp only [] at ho ⊢
      rw [HXL.out] at ho ⊢
      have HO13 := Lib.hid ho
      have HS12 := Lib.hid (HS11.out.later hb)
      have HO14 := Lib.hid (HO11.out.later hb)
      have HO15 := Lib.hid (HO12.out.later hb)
      have HB12 := Lib.hid (HB11.out.trans (hb.mono HB11.out.size))
      clear ho hb HS11 HO11 HO12 HB11
      have hpos : decide ((K : Int) > 0) = true := by simp; omega
      go_wp2_with fail
      refine (same_true X HXL.out HXL.out HO14.out.rd HO15.out.rd (by rw [HXL.out]; unfold maxLen; omega)).mono ?_
      rintro e w13 ⟨rfl, kq, rfl⟩
      go_wp2_with fail
      refine (same_true X HXL.out HXL.out (HO14.out.drewN kq).rd (HO13.out.drewN kq).rd (by rw [HXL.out]; unfold maxLen; omega)).mono ?_
      rintro e w14 ⟨rfl, kr, rfl⟩
      have HS14 := Lib.hid (HS12.out.drewN (kq + kr))
      have HB14 := Lib.hid (below_drewN' HB12.out (kq + kr))
      go_wp2_with fail
      refine (dead_is HS14.out).mono ?_
      rintro e w15 ⟨rfl, rfl⟩
      go_wp2_with fail
      refine (wakesS_any _).mono ?_
      rintro e w16 ⟨rfl, hb⟩
      have HB16 := Lib.hid (HB14.out.trans (hb.mono HB14.out.size))
      clear hb
      go_wp2_with fail
      go_ret
      exact ⟨rfl, HB16.out⟩
  · go_enter Try.func5, Try.ntmps5
    go_wp2_with fail
    refine HC0.out.mono ?_
    rintro e w1 ⟨A0, c0, rfl, ho, hb⟩
    rw [show (40 : Int).toNat = 40 from rfl, HXA.out] at ho ⊢
    rw [HLA.out] at ho ⊢
    have HO0 := Lib.hid ho
    have HB := Lib.hid hb
    have HC1 := Lib.hid (Go.Proofs.Ytbjneoeiognahaa.cut_any a1 len1 cap1 40 z1 w1 H1.out.len H1.out.le (H1.out.rd.later hb) (by omega) (by omega) (by omega))
    clear ho hb
    go_wp2_with fail
    refine HC1.out.mono ?_
    rintro e w2 ⟨A1, c1, rfl, ho, hb⟩
    rw [show (40 : Int).toNat = 40 from rfl, HXB.out] at ho ⊢
    rw [HLB.out] at ho ⊢
    have HO1 := Lib.hid (ho.less HB.out.size)
    have HO02 := Lib.hid (HO0.out.later hb)
    have HB2 := Lib.hid (HB.out.trans (hb.mono HB.out.size))
    clear ho hb HC1 HO0 HB
    go_wp2_with fail
    refine (within_any a3 1000 w2 (by omega) (by omega)).mono ?_
    rw [HN.out]
    rintro e w' ⟨rfl, rfl⟩
    go_wp2_with fail
    refine (newst_any w2 w2.heap.size (Nat.le_refl _)).mono ?_
    rintro e w3 hn
    obtain ⟨p, F, rfl, hs, hb, hf⟩ := newst_is hn
    have HS := Lib.hid hs
    have HO0 := Lib.hid (HO02.out.later hb)
    have HO13 := Lib.hid (HO1.out.later hb)
    have HA0 := Lib.hid (apart_old hs HO02.out (Nat.le_refl _))
    have HA1 := Lib.hid (apart_old hs HO1.out (Nat.le_refl _))
    have HB := Lib.hid (HB2.out.trans (hb.mono HB2.out.size))
    have hsz := HB2.out.size
    have HZ2 := Lib.hid hsz
    clear hn hs hb hf HO02 HO1 HB2 hsz
    go_wp2_with fail
    have ha := append_any HS.out (1 + N) (by omega) A0 LA c0 xa HLA.out HO0.out.rd (apart_addr HA0.out) (by simp) (by omega) (fun k hk => by cases hk)
    have HA := Lib.hid ha
    clear ha
    refine HA.out.mono ?_
    intro e w4 h4
    obtain ⟨F4, rfl, hs4, hsc4⟩ := stEnd_is h4 (append_new (1 + N) xa (by omega))
    have HS4 := Lib.hid hs4
    have HB4 := Lib.hid (HB.out.trans ((HS.out.bel hsc4).mono HZ2.out))
    have HO04 := Lib.hid (keep_own hsc4 HO0.out HA0.out)
    have HO14 := Lib.hid (keep_own hsc4 HO13.out HA1.out)
    clear h4 hs4 hsc4 HA HS HO0 HO13 HA0 HA1 HB
    go_wp2_with fail
    refine (sync_any HS4.out (1 + N) (by omega)).mono ?_
    intro e w5 h5
    obtain ⟨F5, rfl, hs5, hsc5⟩ := stEnd_is h5 (sync_one (1 + N) xa 0 false (by omega))
    have HS5 := Lib.hid hs5
    have HB5 := Lib.hid (HB4.out.trans ((HS4.out.bel hsc5).mono HZ2.out))
    have HO05 := Lib.hid (keep_own hsc5 HO04.out.1 HO04.out.2)
    have HO15 := Lib.hid (keep_own hsc5 HO14.out.1 HO14.out.2)
    clear h5 hs5 hsc5 HS4 HB4 HO04 HO14
    go_wp2_with fail
    have ha := append_any HS5.out (1 + N) (by omega) A1 LB c1 xb HLB.out HO15.out.1.rd (apart_addr HO15.out.2) (by simp) (by omega) (fun k hk => by simp at hk; subst hk; show xa.length ≤ _; rw [HLA.out]; omega)
    have HA := Lib.hid ha
    clear ha
    refine HA.out.mono ?_
    intro e w6 h6
    obtain ⟨F6, rfl, hs6, hsc6⟩ := stEnd_is h6 (append_one (1 + N) xa xb xa.length true (by omega))
    have HS6 := Lib.hid hs6
    have HB6 := Lib.hid (HB5.out.trans ((HS5.out.bel hsc6).mono HZ2.out))
    have HO06 := Lib.hid (keep_own hsc6 HO05.out.1 HO05.out.2)
    have HO16 := Lib.hid (keep_own hsc6 HO15.out.1 HO15.out.2)
    clear h6 hs6 hsc6 HA HS5 HB5 HO05 HO15
    go_wp2_with fail
    refine (within_any a2 100 w6 (by omega) (by omega)).mono ?_
    rw [HKP.out]
    rintro e w' ⟨rfl, rfl⟩
    go_wp2_with fail
    refine (Go.Proofs.Ytbjneoeiognahaa.copy_any A0 LA c0 xa w6 HLA.out HO06.out.1.rd (by omega)).mono ?_
    rintro e w7 ⟨A7, c7, rfl, ho7, hb7⟩
    have HO7 := Lib.hid ho7
    have HA7 := Lib.hid (apart_new HS6.out ho7)
    have HS7 := Lib.hid (HS6.out.later hb7)
    have HB7 := Lib.hid (HB6.out.trans (hb7.mono HB6.out.size))
    have HO17 := Lib.hid (HO16.out.1.later hb7)
    have HZ7 := Lib.hid hb7.size
    clear ho7 hb7 HB6 HO06 HO16
    go_wp2_with (at_builtin; refine wpList_app _ .u8 rfl (.tmp 54) (.tmp 55) 23 rfl 5 (.int .u8 0) 1 Try.underlying23 info_byte rfl w6.heap.size (.slice A7 LA c7) xa rfl HO7.out A1 LB c1 rfl xb HLB.out HO17.out.rd (by rw [HLA.out]; unfold maxLen; omega) (by rw [HLA.out]; omega) HZ7.out ?_; intro A8 c8 w8 ho8 hg8; rw [HLA.out] at ho8 ⊢; have HO8 := Lib.hid ho8; have HG8 := Lib.hid hg8; clear ho8 hg8)
    have HS8 := Lib.hid (HS7.out.kept (Trn.of_grown HG8.out) (fun k hk e => HA7.out k e hk))
    have HA8 := Lib.hid (apart_new HS6.out HO8.out)
    have HB8 := Lib.hid (HB7.out.grown HG8.out HB7.out.size (fun k e => by have h9 := (HO7.out.lt k e).1; have h8 := HS6.out.size; have h7 := HZ2.out; omega))
    have hcap := HO8.out.cap
    clear HS6 HO7 HA7 HS7 HB7 HO17 HZ7 HG8
    refine (crash_any HS8.out KP).mono ?_
    rintro e w9 ⟨F9, rfl, hs9, hsc9⟩
    obtain ⟨K, hK⟩ : ∃ K, LA + K2 = K := ⟨_, rfl⟩
    rw [crash_one (1 + N) (xa ++ xb) xa.length K true false 0 false KP (by rw [List.length_append, HLA.out, HLB.out, ← hK]; exact HK2.out) (by rw [List.length_append, HLA.out, HLB.out]; omega) (.inl rfl)] at hs9
    have hKl : K ≤ LA + LB := by omega
    have hKc : (K : Int) ≤ (c8 : Int) := by omega
    obtain ⟨X, hX⟩ : ∃ X, (xa ++ xb).take K = X := ⟨_, rfl⟩
    have hXl : X.length = K := by rw [← hX, List.length_take, List.length_append, HLA.out, HLB.out]; omega
    rw [hX] at hs9
    have hal := HO8.out.first hKl
    rw [hX] at hal
    have hk9 := keep_own hsc9 hal (apart_len HA8.out)
    have HS9 := Lib.hid hs9
    have HB9 := Lib.hid (HB8.out.trans ((HS8.out.bel hsc9).mono HZ2.out))
    have HO9 := Lib.hid hk9
    have HXL := Lib.hid hXl
    have HKE := Lib.hid hK
    clear hs9 hsc9 hal hk9 hX hXl HS8 HB8 HO8 HA8
    go_wp2_with fail
    refine (read_some HS9.out ⟨1 + N, X, K, true⟩ (by simp)).mono ?_
    rintro e w10 ⟨A10, c10, rfl, ho, hb⟩
    simp only [] at ho ⊢
    rw [HXL.out] at ho ⊢
    have HO10 := Lib.hid ho
    have HA10 := Lib.hid (apart_new HS9.out ho)
    have HS10 := Lib.hid (HS9.out.later hb)
    have HO910 := Lib.hid (HO9.out.1.later hb)
    have HB10 := Lib.hid (HB9.out.trans (hb.mono HB9.out.size))
    have HA910 := Lib.hid HO9.out.2
    clear ho hb HS9 HO9 HB9
    go_wp2_with fail
    refine (crash_any HS10.out 0).mono ?_
    rintro e w11 ⟨F11, rfl, hs, hsc⟩
    rw [crash_one (1 + N) X K K true false 0 false 0 (by rw [HXL.out]; simp) (by rw [HXL.out]; exact Nat.le_refl _) (.inl rfl), List.take_of_length_le (by rw [HXL.out]; exact Nat.le_refl _)] at hs
    have HS11 := Lib.hid hs
    have HB11 := Lib.hid (HB10.out.trans ((HS10.out.bel hsc).mono HZ2.out))
    have HO11 := Lib.hid (keep_own hsc HO10.out HA10.out).1
    have HO12 := Lib.hid (keep_own hsc HO910.out HA910.out).1
    clear hs hsc HS10 HB10 HO10 HA10 HO910 HA910
    go_wp2_with fail
    refine (read_some HS11.out ⟨1 + N, X, K, true⟩ (by simp)).mono ?_
    rintro e w12 ⟨A12, c12, rfl, ho, hb⟩
    simp only [] at ho ⊢
    rw [HXL.out] at ho ⊢
    have HO13 := Lib.hid ho
    have HS12 := Lib.hid (HS11.out.later hb)
    have HO14 := Lib.hid (HO11.out.later hb)
    have HO15 := Lib.hid (HO12.out.later hb)
    have HB12 := Lib.hid (HB11.out.trans (hb.mono HB11.out.size))
    clear ho hb HS11 HO11 HO12 HB11

    go_wp2_with fail
    refine (same_true X HXL.out HXL.out HO14.out.rd HO15.out.rd (by rw [HXL.out]; unfold maxLen; omega)).mono ?_
    rintro e w13 ⟨rfl, kq, rfl⟩
    go_wp2_with fail
    refine (same_true X HXL.out HXL.out (HO14.out.drewN kq).rd (HO13.out.drewN kq).rd (by rw [HXL.out]; unfold maxLen; omega)).mono ?_
    rintro e w14 ⟨rfl, kr, rfl⟩
    have HS14 := Lib.hid (HS12.out.drewN (kq + kr))
    have HB14 := Lib.hid (below_drewN' HB12.out (kq + kr))
    go_wp2_with fail
    refine (dead_is HS14.out).mono ?_
    rintro e w15 ⟨rfl, rfl⟩
    go_wp2_with fail
    refine (wakesS_any _).mono ?_
    rintro e w16 ⟨rfl, hb⟩
    have HB16 := Lib.hid (HB14.out.trans (hb.mono HB14.out.size))
    clear hb
    go_wp2_with fail
    go_ret
    exact ⟨rfl, HB16.out⟩
end Go.Proofs.Ytbjneoeiognahaa
