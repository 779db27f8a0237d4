/-
  The walk of StoreFuse.
-/
import Derived.Test.YtbjneoeiognahaaStOne
import Derived.Test.YtbjneoeiognahaaBase
import Derived.Deep.LoopGhost
namespace Go.Proofs.Ytbjneoeiognahaa
open Go.RowKit Go.Maps

/-- A list so many times. -/
def rep (b : List Int) : Nat → List Int
  | 0 => []
  | i + 1 => rep b i ++ b
theorem rep_len (b : List Int) : ∀ i, (rep b i).length = i * b.length
  | 0 => by simp [rep]
  | i + 1 => by simp [rep, rep_len b i, Nat.succ_mul]
def repS (b : List Int) : Nat → List Blk
  | 0 => []
  | i + 1 => [⟨2, rep b (i + 1), 0, false⟩]
theorem append_bad (bs : List Blk) (lf : Int) (ys : List Int) : (⟨bs, true, lf, false⟩ : St).append 0 ys = (⟨bs, true, lf, false⟩, 1) := by
  simp [St.append, St.act, mayE]
theorem drop_bad (b : List Int) (i : Nat) (lf : Int) : (⟨repS b i, true, lf, false⟩ : St).drop 7 = (⟨repS b i, true, lf, false⟩, 3) := by
  cases i <;> simp [St.drop, St.act, mustE, mayE, repS]
theorem append_rep (b : List Int) (i : Nat) (lf : Int) (h : lf ≠ 0) : (⟨repS b i, true, lf, false⟩ : St).append 2 b = (⟨repS b (i + 1), true, lf - 1, false⟩, 0) := by
  cases i <;> simp [St.append, St.act, mayE, h, repS, rep, appB, insB, Blk.more, burn]
theorem append_stop (bs : List Blk) (ys : List Int) : (⟨bs, true, 0, false⟩ : St).append 2 ys = (⟨bs, true, 0, true⟩, 6) := by
  simp [St.append, St.act, mayE]
theorem append_dead (bs : List Blk) (lf n : Int) (ys : List Int) : (⟨bs, true, lf, true⟩ : St).append n ys = (⟨bs, true, lf, true⟩, 6) := by
  simp [St.append, St.act, mayE]
theorem sync_dead (bs : List Blk) (lf n : Int) : (⟨bs, true, lf, true⟩ : St).sync n = (⟨bs, true, lf, true⟩, 6) := by
  simp [St.sync, St.act, mustE, mayE]
theorem cut_dead (bs : List Blk) (lf n j : Int) : (⟨bs, true, lf, true⟩ : St).cut n j = (⟨bs, true, lf, true⟩, 6) := by
  simp [St.cut, St.act, cutE, mustE, mayE]
theorem drop_dead (bs : List Blk) (lf n : Int) : (⟨bs, true, lf, true⟩ : St).drop n = (⟨bs, true, lf, true⟩, 6) := by
  simp [St.drop, St.act, mustE, mayE]
theorem repS_xs (b : List Int) (i : Nat) (hb : b.length ≤ 9) (hi : i ≤ 11) : ∀ k ∈ repS b i, k.xs.length ≤ 1099510579200 := by
  cases i with
  | zero => intro k hk; cases hk
  | succ i =>
    intro k hk
    simp only [repS, List.mem_singleton] at hk
    subst hk
    show (rep b (i + 1)).length ≤ _
    rw [rep_len]
    have : (i + 1) * b.length ≤ 11 * 9 := Nat.mul_le_mul hi hb
    omega
theorem repS_len (b : List Int) (i : Nat) : (repS b i).length < 1099511627776 := by
  cases i <;> simp [repS]

set_option maxRecDepth 100000 in
set_option maxHeartbeats 4000000 in
theorem storeFuse_walk (a0 : Int) (a1 : Option Addr) (len1 cap1 : Nat) (z1 : List Int) (W : World)
    (_ : (Lit.int .i64 a0).wf = true) (h1 : ArgI .u8 1 W a1 len1 cap1 z1) :
    Calls Try.prog 6 #[.int .i64 a0, .slice a1 len1 cap1] W fun e W' => e = .returned (.bool true) ∧ Below W.heap.size W W' := by
  have hre1 := h1.reach
  have hle1 := h1.le
  have HC1 := Lib.hid (Go.Proofs.Ytbjneoeiognahaa.cut_any a1 len1 cap1 8 z1 W h1.len h1.le h1.rd (by omega) (by omega) (by omega))
  clear h1
  obtain ⟨xa, hxa⟩ : ∃ xa, z1.take 8 = xa := ⟨_, rfl⟩
  have hla : xa.length ≤ 8 := by rw [← hxa]; exact List.length_take_le _ _
  obtain ⟨L0, hL0⟩ : ∃ n, xa.length = n := ⟨_, rfl⟩
  rw [hL0] at hla
  obtain ⟨N, hN, hN0⟩ := mod_nat a0 11
  rw [show (((11 : Nat) : Int) + 1) = 12 from rfl] at hN
  have HN := Lib.hid hN
  have HXA := Lib.hid hxa
  have HL0 := Lib.hid hL0
  clear hN hxa hL0
  go_enter Try.func6, Try.ntmps6
  go_wp2_with fail
  refine (within_any a0 12 W (by omega) (by omega)).mono ?_
  rw [HN.out]
  rintro e w' ⟨rfl, rfl⟩
  go_wp2_with fail
  refine HC1.out.mono ?_
  rintro e w1 ⟨A0, c0, rfl, ho, hb⟩
  rw [show (8 : Int).toNat = 8 from rfl, HXA.out] at ho ⊢
  rw [HL0.out] at ho ⊢
  have hal : Below w1.heap.size w1 (w1.alloc (.cells (bts [1]) 5)) := (Below.refl _ _).alloc (Nat.le_refl _) _
  have HO := Lib.hid (ho.later hal)
  have HB := Lib.hid (hb.trans (hal.mono hb.size))
  clear ho hb hal HC1
  go_wp2_with (at_builtin; refine wpList_app _ .u8 rfl (.tmp 14) (.tmp 15) 23 rfl 5 (.int .u8 0) 1 Try.underlying23 info_byte rfl W.heap.size (.slice A0 L0 c0) xa rfl HO.out (some ⟨w1.heap.size, 0, none⟩) 1 1 rfl [1] rfl (lit_rd w1 [1] (by simp [maxLen])) (by rw [HL0.out]; unfold maxLen; omega) (by rw [HL0.out]; omega) HB.out.size ?_; intro A2 c2 w2 ho2 hg2; rw [HL0.out] at ho2 ⊢; have HO2 := Lib.hid ho2; have HB2 := Lib.hid (HB.out.grown hg2 HB.out.size (fun k e => (HO.out.lt k e).1)); clear ho2 hg2)
  obtain ⟨b, hxx⟩ : ∃ b, xa ++ [1] = b := ⟨_, rfl⟩
  obtain ⟨LB, hLB⟩ : ∃ n, L0 + 1 = n := ⟨_, rfl⟩
  rw [hLB] at HO2 ⊢
  rw [hxx] at HO2
  have hxl : b.length = LB := by rw [← hxx, List.length_append, HL0.out]; exact hLB
  have HLB := Lib.hid hxl
  have hlb2 : LB ≤ 9 := by omega
  have hlb1 : 1 ≤ LB := by omega
  have HLB9 := Lib.hid (show b.length ≤ 9 by omega)
  clear hxx hLB hxl HO HB
  refine (newst_any w2 w2.heap.size (Nat.le_refl _)).mono ?_
  rintro e w4 hn
  obtain ⟨p, F, rfl, hs, hb, hf⟩ := newst_is hn
  have HS := Lib.hid hs
  have HO4 := Lib.hid (HO2.out.later hb)
  have HA4 := Lib.hid (apart_old hs HO2.out (Nat.le_refl _))
  have HB4 := Lib.hid (HB2.out.trans (hb.mono HB2.out.size))
  have hsz := HB2.out.size
  have HZ := Lib.hid hsz
  clear hn hs hb hf HO2 HB2 hsz
  go_wp2_with fail
  refine (fuse_is HS.out (N : Int) (by omega)).mono ?_
  rintro e w5 ⟨rfl, hs, hsc⟩
  rw [show max (N : Int) 0 = (N : Int) by omega] at hs
  have HS5 := Lib.hid (show StoreIs w5 w2.heap.size p ⟨repS b 0, true, (N : Int) - (0 : Nat), false⟩ F by rw [show (N : Int) - (0 : Nat) = N by omega]; exact hs)
  have HO5 := Lib.hid (keep_own hsc HO4.out HA4.out)
  have HB5 := Lib.hid (HB4.out.trans ((HS.out.bel hsc).mono HZ.out))
  clear hs hsc HS HO4 HA4 HB4
  go_wp2_with fail
  go_loopw [6] (fun vi wr => ∃ (i : Nat) (F' : Nat → Prop), i ≤ N ∧ vi = .int .i64 i ∧ Hid (StoreIs wr w2.heap.size p ⟨repS b i, true, (N : Int) - i, false⟩ F') ∧ Hid (Own .u8 5 wr W.heap.size (.slice A2 LB c2) b ∧ Apart (.slice A2 LB c2) F') ∧ Hid (Below W.heap.size W wr)) (fun vi _ => N - (intOf vi).toNat)
  case atStart => exact ⟨0, F, Nat.zero_le _, rfl, HS5, HO5, HB5⟩
  case round =>
    obtain ⟨i, F', hi, rfl, hs, ho, hbw⟩ := hrel
    by_cases hlt : i < N
    · have hle2 : i ≤ 11 := by omega
      go_wp2_with fail
      refine (append_any hs.out 0 (by omega) A2 LB c2 b HLB.out ho.out.1.rd (apart_addr ho.out.2) (repS_len _ _) (by omega) (repS_xs b i HLB9.out hle2)).mono ?_
      intro e w6 h6
      obtain ⟨F6, rfl, hs6, hsc6⟩ := stEnd_is h6 (append_bad _ _ b)
      have HS6 := Lib.hid hs6
      have HO6 := Lib.hid (keep_own hsc6 ho.out.1 ho.out.2)
      have HB6 := Lib.hid (hbw.out.trans ((hs.out.bel hsc6).mono HZ.out))
      clear h6 hs6 hsc6 hs ho hbw
      go_wp2_with fail
      refine (drop_any HS6.out 7 (by omega)).mono ?_
      intro e w7 h7
      obtain ⟨F7, rfl, hs7, hsc7⟩ := stEnd_is h7 (drop_bad b i _)
      have HS7 := Lib.hid hs7
      have HO7 := Lib.hid (keep_own hsc7 HO6.out.1 HO6.out.2)
      have HB7 := Lib.hid (HB6.out.trans ((HS6.out.bel hsc7).mono HZ.out))
      clear h7 hs7 hsc7 HS6 HO6 HB6
      go_wp2_with fail
      refine (append_any HS7.out 2 (by omega) A2 LB c2 b HLB.out HO7.out.1.rd (apart_addr HO7.out.2) (repS_len _ _) (by omega) (repS_xs b i HLB9.out hle2)).mono ?_
      intro e w8 h8
      obtain ⟨F8, rfl, hs8, hsc8⟩ := stEnd_is h8 (append_rep b i _ (by omega))
      rw [show (N : Int) - (i : Nat) - 1 = (N : Int) - ((i + 1 : Nat) : Int) by omega] at hs8
      have HS8 := Lib.hid hs8
      have HO8 := Lib.hid (keep_own hsc8 HO7.out.1 HO7.out.2)
      have HB8 := Lib.hid (HB7.out.trans ((HS7.out.bel hsc8).mono HZ.out))
      clear h8 hs8 hsc8 HS7 HO7 HB7
      go_wp2_with fail
      refine (dead_is HS8.out).mono ?_
      rintro e w9 ⟨rfl, rfl⟩
      go_wp2_with fail
      go_roundw
      case rel => exact ⟨i + 1, F8, hlt, by go_num, HS8, HO8, HB8⟩
      case measure => simp [intOf]; omega
    · have hiN : i = N := by omega
      subst hiN
      rw [show (i : Int) - (i : Nat) = 0 by omega] at hs
      go_wp2_with fail
      refine (append_any hs.out 2 (by omega) A2 LB c2 b HLB.out ho.out.1.rd (apart_addr ho.out.2) (repS_len _ _) (by omega) (repS_xs b i HLB9.out hN0)).mono ?_
      intro e w6 h6
      obtain ⟨F6, rfl, hs6, hsc6⟩ := stEnd_is h6 (append_stop _ b)
      have HS6 := Lib.hid hs6
      have HO6 := Lib.hid (keep_own hsc6 ho.out.1 ho.out.2)
      have HB6 := Lib.hid (hbw.out.trans ((hs.out.bel hsc6).mono HZ.out))
      clear h6 hs6 hsc6 hs ho hbw
      go_wp2_with fail
      refine (dead_is HS6.out).mono ?_
      rintro e w7 ⟨rfl, rfl⟩
      go_wp2_with fail
      refine (append_any HS6.out 2 (by omega) A2 LB c2 b HLB.out HO6.out.1.rd (apart_addr HO6.out.2) (repS_len _ _) (by omega) (repS_xs b i HLB9.out hN0)).mono ?_
      intro e w8 h8
      obtain ⟨F8, rfl, hs8, hsc8⟩ := stEnd_is h8 (append_dead _ _ 2 b)
      have HS8 := Lib.hid hs8
      have HO8 := Lib.hid (keep_own hsc8 HO6.out.1 HO6.out.2)
      have HB8 := Lib.hid (HB6.out.trans ((HS6.out.bel hsc8).mono HZ.out))
      clear h8 hs8 hsc8 HS6 HO6 HB6
      go_wp2_with fail
      refine (sync_any HS8.out 2 (by omega)).mono ?_
      intro e w9 h9
      obtain ⟨F9, rfl, hs9, hsc9⟩ := stEnd_is h9 (sync_dead _ _ 2)
      have HS9 := Lib.hid hs9
      have HO9 := Lib.hid (keep_own hsc9 HO8.out.1 HO8.out.2)
      have HB9 := Lib.hid (HB8.out.trans ((HS8.out.bel hsc9).mono HZ.out))
      clear h9 hs9 hsc9 HS8 HO8 HB8
      go_wp2_with fail
      refine (stcut_any HS9.out 2 (by omega) 0).mono ?_
      intro e w10 h10
      obtain ⟨F10, rfl, hs10, hsc10⟩ := stEnd_is h10 (cut_dead _ _ 2 0)
      have HS10 := Lib.hid hs10
      have HO10 := Lib.hid (keep_own hsc10 HO9.out.1 HO9.out.2)
      have HB10 := Lib.hid (HB9.out.trans ((HS9.out.bel hsc10).mono HZ.out))
      clear h10 hs10 hsc10 HS9 HO9 HB9
      go_wp2_with fail
      refine (drop_any HS10.out 2 (by omega)).mono ?_
      intro e w11 h11
      obtain ⟨F11, rfl, hs11, hsc11⟩ := stEnd_is h11 (drop_dead _ _ 2)
      have HS11 := Lib.hid hs11
      have HO11 := Lib.hid (keep_own hsc11 HO10.out.1 HO10.out.2)
      have HB11 := Lib.hid (HB10.out.trans ((HS10.out.bel hsc11).mono HZ.out))
      clear h11 hs11 hsc11 HS10 HO10 HB10
      go_wp2_with fail
      refine (append_any HS11.out 0 (by omega) A2 LB c2 b HLB.out HO11.out.1.rd (apart_addr HO11.out.2) (repS_len _ _) (by omega) (repS_xs b i HLB9.out hN0)).mono ?_
      intro e w12 h12
      obtain ⟨F12, rfl, hs12, hsc12⟩ := stEnd_is h12 (append_dead _ _ 0 b)
      have HS12 := Lib.hid hs12
      have HO12 := Lib.hid (keep_own hsc12 HO11.out.1 HO11.out.2)
      have HB12 := Lib.hid (HB11.out.trans ((HS11.out.bel hsc12).mono HZ.out))
      clear h12 hs12 hsc12 HS11 HO11 HB11
      go_wp2_with fail
      have hal : Below w12.heap.size w12 (w12.alloc (.cells #[.int .i64 6, .int .i64 6, .int .i64 6, .int .i64 6, .int .i64 6] 30)) := (Below.refl _ _).alloc (Nat.le_refl _) _
      have HS13 := Lib.hid (HS12.out.later hal)
      have HO13 := Lib.hid (show Own .u8 5 (w12.alloc (.cells #[.int .i64 6, .int .i64 6, .int .i64 6, .int .i64 6, .int .i64 6] 30)) W.heap.size (.slice A2 LB c2) b ∧ Apart (.slice A2 LB c2) F12 from ⟨HO12.out.1.later hal, HO12.out.2⟩)
      have HB13 := Lib.hid (HB12.out.trans (hal.mono HB12.out.size))
      clear hal HS12 HO12 HB12
      refine wp_loop_rounds 6 ?_
      iterate 6 (rw [rounds_succ]; go_wp2_with fail)
      refine (crash_any HS13.out 1000).mono ?_
      rintro e w14 ⟨F14, rfl, hs, hsc⟩
      have HS14 := Lib.hid hs
      have HB14 := Lib.hid (HB13.out.trans ((HS13.out.bel hsc).mono HZ.out))
      have HO14 := Lib.hid (keep_own hsc HO13.out.1 HO13.out.2)
      clear hs hsc HS13 HB13 HO13
      by_cases hz : i = 0
      · subst hz
        have HS14' := Lib.hid (show StoreIs w14 w2.heap.size p ⟨[], false, 0, false⟩ F14 from HS14.out)
        clear HS14
        go_wp2_with fail
        refine (read_none HS14'.out 2 (fun k hk => by cases hk) (by omega) (by omega)).mono ?_
        rintro e w15 ⟨rfl, rfl⟩
        go_wp2_with fail
        refine (append_any HS14'.out 2 (by omega) A2 LB c2 b HLB.out HO14.out.1.rd (apart_addr HO14.out.2) (by simp) (by omega) (fun k hk => by cases hk)).mono ?_
        intro e w17 h17
        obtain ⟨F17, rfl, hs17, hsc17⟩ := stEnd_is h17 (append_new 2 b (by omega))
        have HS17 := Lib.hid hs17
        have HB17 := Lib.hid (HB14.out.trans ((HS14'.out.bel hsc17).mono HZ.out))
        clear h17 hs17 hsc17 HS14' HB14 HO14
        go_wp2_with fail
        refine (sync_any HS17.out 2 (by omega)).mono ?_
        intro e w18 h18
        obtain ⟨F18, rfl, hs18, hsc18⟩ := stEnd_is h18 (sync_one 2 b 0 false (by omega))
        have HS18 := Lib.hid hs18
        have HB18 := Lib.hid (HB17.out.trans ((HS17.out.bel hsc18).mono HZ.out))
        clear h18 hs18 hsc18 HS17 HB17
        go_wp2_with fail
        refine (drop_any HS18.out 2 (by omega)).mono ?_
        intro e w19 h19
        obtain ⟨F19, rfl, hs19, hsc19⟩ := stEnd_is h19 (drop_one 2 b b.length true (by omega))
        have HS19 := Lib.hid hs19
        have HB19 := Lib.hid (HB18.out.trans ((HS18.out.bel hsc19).mono HZ.out))
        clear h19 hs19 hsc19 HS18 HB18
        go_wp2_with fail
        refine (blocks_any HS19.out (by simp)).mono ?_
        rintro e w20 ⟨A20, c20, rfl, ho, hb⟩
        have HB20 := Lib.hid (HB19.out.trans (hb.mono HB19.out.size))
        clear ho hb HS19 HB19
        simp only [List.map_nil, List.length_nil]
        go_wp2_with fail
        refine (wakesS_any _).mono ?_
        rintro e w22 ⟨rfl, hb⟩
        have HB22 := Lib.hid (HB20.out.trans (hb.mono HB20.out.size))
        clear hb
        go_wp2_with fail
        go_ret
        exact ⟨rfl, HB22.out⟩
      · obtain ⟨j, hj⟩ : ∃ j, i = j + 1 := ⟨i - 1, by omega⟩
        obtain ⟨X, hX⟩ : ∃ X, rep b i = X := ⟨_, rfl⟩
        obtain ⟨K, hK⟩ : ∃ K, i * LB = K := ⟨_, rfl⟩
        have hXl : X.length = K := by rw [← hX, rep_len, HLB.out]; exact hK
        have hK1 : 0 < K := by rw [← hK]; exact Nat.mul_pos (by omega) (by omega)
        have hK2 : K ≤ 99 := by
          rw [← hK]
          have : i * LB ≤ 11 * 9 := Nat.mul_le_mul hN0 hlb2
          omega
        have hmul : (i : Int) * (LB : Int) = (K : Int) := by rw [← hK]; simp
        have hs14 := HS14.out
        rw [show repS b i = [⟨2, X, 0, false⟩] by rw [hj, ← hX, hj]; rfl, crash_one 2 X 0 K false true 0 true 1000 (by rw [hXl]; omega) (by rw [hXl]; exact Nat.le_refl _) (.inr hK1), List.take_of_length_le (by rw [hXl]; exact Nat.le_refl _)] at hs14
        have HS14' := Lib.hid hs14
        have HXL := Lib.hid hXl
        have HMUL := Lib.hid hmul
        have hpos : decide ((i : Int) > 0) = true := by simp; omega
        have hpos2 : (0 : Int) < (i : Int) := by omega
        have hw1 : IntKind.i64.wrap ((i : Int) * (LB : Int)) = (K : Int) := by rw [hmul, IntKind.wrap_i64]; omega
        clear HS14 hs14 hXl hmul hX hK hj
        go_wp2_with fail
        refine (read_some HS14'.out ⟨2, X, K, true⟩ (by simp)).mono ?_
        rintro e w15 ⟨A15, c15, rfl, ho, hb⟩
        simp only [] at ho ⊢
        rw [HXL.out] at ho ⊢
        have HS15 := Lib.hid (HS14'.out.later hb)
        have HO15 := Lib.hid (HO14.out.1.later hb)
        have HA15 := Lib.hid HO14.out.2
        have HB15 := Lib.hid (HB14.out.trans (hb.mono HB14.out.size))
        clear ho hb HS14' HO14 HB14
        go_wp2_with fail
        refine (append_any HS15.out 2 (by omega) A2 LB c2 b HLB.out HO15.out.rd (apart_addr HA15.out) (by simp) (by omega) (fun k hk => by simp at hk; subst hk; show X.length ≤ _; rw [HXL.out]; omega)).mono ?_
        intro e w17 h17
        obtain ⟨F17, rfl, hs17, hsc17⟩ := stEnd_is h17 (append_one 2 X b K true (by omega))
        have HS17 := Lib.hid hs17
        have HB17 := Lib.hid (HB15.out.trans ((HS15.out.bel hsc17).mono HZ.out))
        clear h17 hs17 hsc17 HS15 HB15 HO15 HA15
        go_wp2_with fail
        refine (sync_any HS17.out 2 (by omega)).mono ?_
        intro e w18 h18
        obtain ⟨F18, rfl, hs18, hsc18⟩ := stEnd_is h18 (sync_one 2 (X ++ b) K true (by omega))
        have HS18 := Lib.hid hs18
        have HB18 := Lib.hid (HB17.out.trans ((HS17.out.bel hsc18).mono HZ.out))
        clear h18 hs18 hsc18 HS17 HB17
        go_wp2_with fail
        refine (drop_any HS18.out 2 (by omega)).mono ?_
        intro e w19 h19
        obtain ⟨F19, rfl, hs19, hsc19⟩ := stEnd_is h19 (drop_one 2 (X ++ b) (X ++ b).length true (by omega))
        have HS19 := Lib.hid hs19
        have HB19 := Lib.hid (HB18.out.trans ((HS18.out.bel hsc19).mono HZ.out))
        clear h19 hs19 hsc19 HS18 HB18
        go_wp2_with fail
        refine (blocks_any HS19.out (by simp)).mono ?_
        rintro e w20 ⟨A20, c20, rfl, ho, hb⟩
        have HB20 := Lib.hid (HB19.out.trans (hb.mono HB19.out.size))
        clear ho hb HS19 HB19
        simp only [List.map_nil, List.length_nil]
        go_wp2_with fail
        refine (wakesS_any _).mono ?_
        rintro e w22 ⟨rfl, hb⟩
        have HB22 := Lib.hid (HB20.out.trans (hb.mono HB20.out.size))
        clear hb
        go_wp2_with fail
        go_ret
        exact ⟨rfl, HB22.out⟩
end Go.Proofs.Ytbjneoeiognahaa
