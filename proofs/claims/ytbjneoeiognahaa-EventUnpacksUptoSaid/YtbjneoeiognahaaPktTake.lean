/-
  What package packet's Take takes of a Reader: a contract over the program.
-/
import Derived.Test.YtbjneoeiognahaaPktVar
namespace Go.Proofs.Ytbjneoeiognahaa
open Go.RowKit

set_option maxRecDepth 10000 in
set_option maxHeartbeats 2000000 in
theorem takeP_any (w : World) (p : Nat) (A : Option Addr) (c : Nat) (xs : List Int) (a : Nat) (bad : Bool) (hr : Rdr w p A c xs a bad) :
    Calls Try.prog 91 #[.pointer (some ⟨p, 0, none⟩)] w fun e w' => ∃ A' c', e = .returned (.tuple #[(takeP xs (a, bad)).1.val A' c', .bool (takeP xs (a, bad)).2.1]) ∧
      Own .u8 5 w' w.heap.size (.slice A' (takeP xs (a, bad)).1.da.length c') (takeP xs (a, bad)).1.da ∧ Rdr w' p A c xs (takeP xs (a, bad)).2.2.1 (takeP xs (a, bad)).2.2.2 ∧ w.grownBy w' (some p) := by
  obtain ⟨k, a1, b1, e1⟩ : ∃ k a1 b1, rdO xs (a, bad) = (k, a1, b1) := ⟨_, _, _, rfl⟩
  obtain ⟨pa, a2, b2, e2⟩ : ∃ k a1' b1', rdN xs (a1, b1) = (k, a1', b1') := ⟨_, _, _, rfl⟩
  obtain ⟨nu, a3, b3, e3⟩ : ∃ k a1' b1', rdN xs (a2, b2) = (k, a1', b1') := ⟨_, _, _, rfl⟩
  have hk := rdO_bd (s := (a, bad)) hr.le hr.bytes
  rw [e1] at hk
  have hpa := rdN_bd (xs := xs) (s := (a1, b1)) hk.2.2
  rw [e2] at hpa
  have hnu := rdN_bd (xs := xs) (s := (a2, b2)) hpa.2.2
  rw [e3] at hnu
  simp only at hk hpa hnu
  have hw9 : wrap64 k = k := by unfold wrap64; omega
  obtain ⟨R, hR⟩ : ∃ R, takeP xs (a, bad) = R := ⟨_, rfl⟩
  rw [hR]
  by_cases h2 : k = 2
  · subst h2
    obtain ⟨o, a4, b4, e4⟩ : ∃ k a1' b1', rdN xs (a3, b3) = (k, a1', b1') := ⟨_, _, _, rfl⟩
    have ho := rdN_bd (xs := xs) (s := (a3, b3)) hnu.2.2
    rw [e4] at ho
    simp only at ho
    have hrp : readP xs (a, bad) = (⟨2, pa, nu, o, 0, [], false, 0, 0⟩, true, a4, b4) := by simp [readP, e1, e2, e3, e4]
    obtain ⟨pk, hpk⟩ : ∃ pk : Pkt, ⟨2, pa, nu, o, 0, [], false, 0, 0⟩ = pk := ⟨_, rfl⟩
    rw [hpk] at hrp
    have HPK := Lib.hid hpk
    have HT := Lib.hid (show R = if (true && !b4 && pk.ok) = true then (pk, true, a4, b4) else (Pkt.zero, false, a4, b4) by rw [← hR]; unfold takeP; rw [hrp])
    have HAT := Lib.hid (fun (W : World) (B : Option Addr) (d : Nat) (h : Own .u8 5 W w.heap.size (.slice B pk.da.length d) pk.da) => pktAt_of (p := pk) h (by subst hpk; simp) (by subst hpk; simp) (by subst hpk; simp) (by subst hpk; simp; omega) (by subst hpk; simp; omega) (by subst hpk; simp; omega) (by subst hpk; simp) (by subst hpk; simp) (by subst hpk; simp))
    clear hrp hR hpk
    have HR := Lib.hid hr
    have hpl := HR.out.lt
    have HPL := Lib.hid hpl
    clear hr hpl
    have E1 := Lib.hid e1
    have E2 := Lib.hid e2
    have E3 := Lib.hid e3
    have E4 := Lib.hid e4
    clear e1 e2 e3 e4
    go_enter Try.func91, Try.ntmps91
    go_wp2_with fail
    refine (rdO_call (HR.out.alloc _) E1.out).mono ?_
    rintro e w1 ⟨rfl, hr1, hg1⟩
    have T := Lib.hid (TK.begin 2 HPL.out hr1 hg1)
    clear hr1 hg1
    unfold Pkt.cs at T
    simp only [List.length_nil] at T
    go_wp2_with fail
    obtain ⟨w2, hw2⟩ : ∃ W, w1.alloc (.cells #[.int .i64 2, .int .i64 0, .int .i64 0, .int .i64 0, .int .i64 0, .slice none 0 0, .bool false, .int .i64 0, .int .i64 0] 58) = W := ⟨_, rfl⟩
    rw [hw2] at T ⊢
    obtain ⟨q, hq⟩ : ∃ q, w1.heap.size = q := ⟨_, rfl⟩
    obtain ⟨z, hz⟩ : ∃ z, w.heap.size = z := ⟨_, rfl⟩
    rw [hq, hz] at T ⊢
    clear hq hw2
    refine (rdN_call T.out.rd E2.out).mono ?_
    rintro e w3 ⟨rfl, hr3, hg3⟩
    have T9 := Lib.hid (T.out.call hr3 hg3)
    clear hr3 hg3 T
    have f9 := T9.out.pv.fr 1
    have c9 := T9.out.pv.cells.c1
    have c0 := T9.out.pv.cells.c0
    have T := Lib.hid (T9.out.store (T9.out.pv.pa pa) rfl)
    clear T9
    go_wp2_with fail
    obtain ⟨w4, hw9⟩ : ∃ V, w3.setCell ⟨q, 1, none⟩ (.int .i64 pa) = V := ⟨_, rfl⟩
    rw [hw9] at T ⊢
    clear hw9 f9 c9 c0
    refine (rdN_call T.out.rd E3.out).mono ?_
    rintro e w5 ⟨rfl, hr3, hg3⟩
    have T9 := Lib.hid (T.out.call hr3 hg3)
    clear hr3 hg3 T
    have f9 := T9.out.pv.fr 2
    have c9 := T9.out.pv.cells.c2
    have c0 := T9.out.pv.cells.c0
    have T := Lib.hid (T9.out.store (T9.out.pv.nu nu) rfl)
    clear T9
    go_wp2_with fail
    obtain ⟨w6, hw9⟩ : ∃ V, w5.setCell ⟨q, 2, none⟩ (.int .i64 nu) = V := ⟨_, rfl⟩
    rw [hw9] at T ⊢
    clear hw9 f9 c9 c0
    refine (rdN_call T.out.rd E4.out).mono ?_
    rintro e w7 ⟨rfl, hr3, hg3⟩
    have T9 := Lib.hid (T.out.call hr3 hg3)
    clear hr3 hg3 T
    have f9 := T9.out.pv.fr 3
    have c9 := T9.out.pv.cells.c3
    have c0 := T9.out.pv.cells.c0
    have T := Lib.hid (T9.out.store (T9.out.pv.ofn o) rfl)
    clear T9
    go_wp2_with fail
    obtain ⟨w8, hw9⟩ : ∃ V, w7.setCell ⟨q, 3, none⟩ (.int .i64 o) = V := ⟨_, rfl⟩
    rw [hw9] at T ⊢
    clear hw9 f9 c9 c0
    try rw [HPK.out] at T
    refine (bad_any T.out.rd).mono ?_
    rintro e w9 ⟨rfl, rfl⟩
    cases b4
    · obtain ⟨c0, c1, c2, c3, c4, c5, c6, c7, c8⟩ := T.out.pv.cells
      have hc := fun W (h : PktAt W pk none 0) => checkP_any pk none 0 W h
      cases hok : pk.ok
      · simp only [hok, Bool.false_eq_true, if_false] at hc
        have HC := Lib.hid hc
        have hR9 : R = (Pkt.zero, false, a4, false) := by rw [HT.out]; simp [hok]
        clear hc hok
        go_wp2_with fail
        refine (HC.out _ (HAT.out _ _ _ T.out.own)).mono ?_
        rintro e v1 ⟨rfl, hb⟩
        have T9 := Lib.hid (T.out.below hb)
        clear hb T c0 c1 c2 c3 c4 c5 c6 c7 c8
        have T := T9
        clear T9
        have f0 := T.out.zr.fr
        obtain ⟨c0, c1, c2, c3, c4, c5, c6, c7, c8⟩ := T.out.zr.cells
        go_wp2_with fail
        change bodyPost _ _ _ _ _ (v1.setCells z 0 (Pkt.zero.cs none 0))
        obtain ⟨r1, r2, r3⟩ := T.out.put (Pkt.zero.cs none 0)
        refine bodyPost_ret (v := .tuple #[Pkt.zero.val none 0, .bool false]) ?_ rfl ⟨none, 0, by rw [hR9], by rw [hR9]; exact Own.nil _ _ _ _, by rw [hR9]; exact r2, r3⟩
        rw [results_cell_tmp rfl]
        have h9 := T.out.res Pkt.zero none 0
        clear c0 c1 c2 c3 c4 c5 c6 c7 c8 f0
        simp [asAddr, h9]
      · simp only [hok, if_true] at hc
        have HC := Lib.hid hc
        have hR9 : R = (pk, true, a4, false) := by rw [HT.out]; simp [hok]
        clear hc hok
        go_wp2_with fail
        refine (HC.out _ (HAT.out _ _ _ T.out.own)).mono ?_
        rintro e v1 ⟨rfl, hb⟩
        have T9 := Lib.hid (T.out.below hb)
        clear hb T c0 c1 c2 c3 c4 c5 c6 c7 c8
        have T := T9
        clear T9
        obtain ⟨c0, c1, c2, c3, c4, c5, c6, c7, c8⟩ := T.out.pv.cells
        have f0 := T.out.zr.fr
        obtain ⟨x0, x1, x2, x3, x4, x5, x6, x7, x8⟩ := T.out.zr.cells
        go_wp2_with fail
        change bodyPost _ _ _ _ _ (v1.setCells z 0 (pk.cs none 0))
        obtain ⟨r1, r2, r3⟩ := T.out.put (pk.cs none 0)
        refine bodyPost_ret (v := .tuple #[pk.val none 0, .bool true]) ?_ rfl ⟨none, 0, by rw [hR9], by rw [hR9]; exact r1, by rw [hR9]; exact r2, r3⟩
        rw [results_cell_tmp rfl]
        have h9 := T.out.res pk none 0
        clear c0 c1 c2 c3 c4 c5 c6 c7 c8 x0 x1 x2 x3 x4 x5 x6 x7 x8 f0
        simp [asAddr, h9]
    · have hR9 : R = (Pkt.zero, false, a4, true) := by rw [HT.out]; simp
      have f0 := T.out.zr.fr
      obtain ⟨c0, c1, c2, c3, c4, c5, c6, c7, c8⟩ := T.out.zr.cells
      go_wp2_with fail
      change bodyPost _ _ _ _ _ (w8.setCells z 0 (Pkt.zero.cs none 0))
      obtain ⟨r1, r2, r3⟩ := T.out.put (Pkt.zero.cs none 0)
      refine bodyPost_ret (v := .tuple #[Pkt.zero.val none 0, .bool false]) ?_ rfl ⟨none, 0, by rw [hR9], by rw [hR9]; exact Own.nil _ _ _ _, by rw [hR9]; exact r2, r3⟩
      rw [results_cell_tmp rfl]
      have h9 := T.out.res Pkt.zero none 0
      clear c0 c1 c2 c3 c4 c5 c6 c7 c8 f0
      simp [asAddr, h9]
  by_cases h3 : k = 3
  · subst h3
    obtain ⟨fr, a4, b4, e4⟩ : ∃ k a1' b1', rdN xs (a3, b3) = (k, a1', b1') := ⟨_, _, _, rfl⟩
    have ho := rdN_bd (xs := xs) (s := (a3, b3)) hnu.2.2
    rw [e4] at ho
    simp only at ho
    obtain ⟨da, a5, b5, e5⟩ : ∃ k a1' b1', rdB 64 xs (a4, b4) = (k, a1', b1') := ⟨_, _, _, rfl⟩
    have hda := rdB_bd (m := 64) (s := (a4, b4)) ho.2.2 hr.bytes
    rw [e5] at hda
    simp only at hda
    obtain ⟨f, a6, b6, e6⟩ : ∃ k a1' b1', rdO xs (a5, b5) = (k, a1', b1') := ⟨_, _, _, rfl⟩
    have hf := rdO_bd (s := (a5, b5)) hda.2.1 hr.bytes
    rw [e6] at hf
    simp only at hf
    obtain ⟨fm, hfm⟩ : ∃ b, decide (f = 1) = b := ⟨_, rfl⟩
    obtain ⟨fl, hfl⟩ : ∃ b, decide (f ≤ 1) = b := ⟨_, rfl⟩
    have hfg := fun W => flag_any f W
    simp only [hfm, hfl] at hfg
    have HFG := Lib.hid hfg
    clear hfg
    have hrp : readP xs (a, bad) = (⟨3, pa, nu, 0, fr, da, fm, 0, 0⟩, fl, a6, b6) := by simp [readP, e1, e2, e3, e4, e5, e6, hfm, hfl]
    obtain ⟨pk, hpk⟩ : ∃ pk : Pkt, ⟨3, pa, nu, 0, fr, da, fm, 0, 0⟩ = pk := ⟨_, rfl⟩
    rw [hpk] at hrp
    have HPK := Lib.hid hpk
    have HT := Lib.hid (show R = if (fl && !b6 && pk.ok) = true then (pk, true, a6, b6) else (Pkt.zero, false, a6, b6) by rw [← hR]; unfold takeP; rw [hrp])
    have HAT := Lib.hid (fun (W : World) (B : Option Addr) (d : Nat) (h : Own .u8 5 W w.heap.size (.slice B pk.da.length d) pk.da) => pktAt_of (p := pk) h (by subst hpk; exact hda.1) (by subst hpk; simp; omega) (by subst hpk; simp) (by subst hpk; simp; omega) (by subst hpk; simp; omega) (by subst hpk; simp) (by subst hpk; simp; omega) (by subst hpk; simp) (by subst hpk; simp))
    clear hrp hR hpk
    clear hfm hfl
    have HR := Lib.hid hr
    have hpl := HR.out.lt
    have HPL := Lib.hid hpl
    clear hr hpl
    have E1 := Lib.hid e1
    have E2 := Lib.hid e2
    have E3 := Lib.hid e3
    have E4 := Lib.hid e4
    have E5 := Lib.hid e5
    have E6 := Lib.hid e6
    clear e1 e2 e3 e4 e5 e6
    go_enter Try.func91, Try.ntmps91
    go_wp2_with fail
    refine (rdO_call (HR.out.alloc _) E1.out).mono ?_
    rintro e w1 ⟨rfl, hr1, hg1⟩
    have T := Lib.hid (TK.begin 3 HPL.out hr1 hg1)
    clear hr1 hg1
    unfold Pkt.cs at T
    simp only [List.length_nil] at T
    go_wp2_with fail
    obtain ⟨w2, hw2⟩ : ∃ W, w1.alloc (.cells #[.int .i64 3, .int .i64 0, .int .i64 0, .int .i64 0, .int .i64 0, .slice none 0 0, .bool false, .int .i64 0, .int .i64 0] 58) = W := ⟨_, rfl⟩
    rw [hw2] at T ⊢
    obtain ⟨q, hq⟩ : ∃ q, w1.heap.size = q := ⟨_, rfl⟩
    obtain ⟨z, hz⟩ : ∃ z, w.heap.size = z := ⟨_, rfl⟩
    rw [hq, hz] at T ⊢
    clear hq hw2
    refine (rdN_call T.out.rd E2.out).mono ?_
    rintro e w3 ⟨rfl, hr3, hg3⟩
    have T9 := Lib.hid (T.out.call hr3 hg3)
    clear hr3 hg3 T
    have f9 := T9.out.pv.fr 1
    have c9 := T9.out.pv.cells.c1
    have c0 := T9.out.pv.cells.c0
    have T := Lib.hid (T9.out.store (T9.out.pv.pa pa) rfl)
    clear T9
    go_wp2_with fail
    obtain ⟨w4, hw9⟩ : ∃ V, w3.setCell ⟨q, 1, none⟩ (.int .i64 pa) = V := ⟨_, rfl⟩
    rw [hw9] at T ⊢
    clear hw9 f9 c9 c0
    refine (rdN_call T.out.rd E3.out).mono ?_
    rintro e w5 ⟨rfl, hr3, hg3⟩
    have T9 := Lib.hid (T.out.call hr3 hg3)
    clear hr3 hg3 T
    have f9 := T9.out.pv.fr 2
    have c9 := T9.out.pv.cells.c2
    have c0 := T9.out.pv.cells.c0
    have T := Lib.hid (T9.out.store (T9.out.pv.nu nu) rfl)
    clear T9
    go_wp2_with fail
    obtain ⟨w6, hw9⟩ : ∃ V, w5.setCell ⟨q, 2, none⟩ (.int .i64 nu) = V := ⟨_, rfl⟩
    rw [hw9] at T ⊢
    clear hw9 f9 c9 c0
    refine (rdN_call T.out.rd E4.out).mono ?_
    rintro e w7 ⟨rfl, hr3, hg3⟩
    have T9 := Lib.hid (T.out.call hr3 hg3)
    clear hr3 hg3 T
    have f9 := T9.out.pv.fr 4
    have c9 := T9.out.pv.cells.c4
    have c0 := T9.out.pv.cells.c0
    have T := Lib.hid (T9.out.store (T9.out.pv.frm fr) rfl)
    clear T9
    go_wp2_with fail
    obtain ⟨w8, hw9⟩ : ∃ V, w7.setCell ⟨q, 4, none⟩ (.int .i64 fr) = V := ⟨_, rfl⟩
    rw [hw9] at T ⊢
    clear hw9 f9 c9 c0
    refine (rdB_call (m := 64) T.out.rd E5.out).mono ?_
    rintro e w9 ⟨B, d, rfl, ho3, hr3, hg3⟩
    have ho4 := ho3.less (B' := w.heap.size) T.out.gr.size
    have T9 := Lib.hid (T.out.call hr3 hg3)
    clear hr3 hg3 T ho3
    have f9 := T9.out.pv.fr 5
    have c9 := T9.out.pv.cells.c5
    have T := Lib.hid (T9.out.data ho4)
    clear T9 ho4
    go_wp2_with fail
    obtain ⟨w10, hw9⟩ : ∃ V, w9.setCell ⟨q, 5, none⟩ (.slice B da.length d) = V := ⟨_, rfl⟩
    rw [hw9] at T ⊢
    clear hw9 f9 c9
    refine (rdO_call T.out.rd E6.out).mono ?_
    rintro e w11 ⟨rfl, hr3, hg3⟩
    have T9 := Lib.hid (T.out.call hr3 hg3)
    clear hr3 hg3 T
    go_wp2_with fail
    refine (HFG.out _).mono ?_
    rintro e w' ⟨rfl, rfl⟩
    have f9 := T9.out.pv.fr 6
    have c9 := T9.out.pv.cells.c6
    have T := Lib.hid (T9.out.store (T9.out.pv.fin fm) rfl)
    rw [HPK.out] at T
    cases fl
    · have hR9 : R = (Pkt.zero, false, a6, b6) := by rw [HT.out]; simp
      have nz : ¬ z = q := fun e => absurd T9.out.zq (by omega)
      have nq : ¬ q = z := fun e => nz e.symm
      have f0 := T9.out.zr.fr
      obtain ⟨c0, c1, c2, c3, c4, c5, c6, c7, c8⟩ := T9.out.zr.cells
      go_wp2_with fail
      change bodyPost _ _ _ _ _ ((w11.setCell ⟨q, 6, none⟩ (.bool fm)).setCells z 0 (Pkt.zero.cs none 0))
      obtain ⟨r1, r2, r3⟩ := T.out.put (Pkt.zero.cs none 0)
      refine bodyPost_ret (v := .tuple #[Pkt.zero.val none 0, .bool false]) ?_ rfl ⟨none, 0, by rw [hR9], by rw [hR9]; exact Own.nil _ _ _ _, by rw [hR9]; exact r2, r3⟩
      rw [results_cell_tmp rfl]
      have h9 := T.out.res Pkt.zero none 0
      clear c0 c1 c2 c3 c4 c5 c6 c7 c8 f0 f9 c9 T9 nz nq
      simp [asAddr, h9]
    · clear T9
      go_wp2_with fail
      obtain ⟨w12, hw9⟩ : ∃ V, w11.setCell ⟨q, 6, none⟩ (.bool fm) = V := ⟨_, rfl⟩
      rw [hw9] at T ⊢
      clear hw9 f9 c9
      try rw [HPK.out] at T
      refine (bad_any T.out.rd).mono ?_
      rintro e w9 ⟨rfl, rfl⟩
      cases b6
      · obtain ⟨c0, c1, c2, c3, c4, c5, c6, c7, c8⟩ := T.out.pv.cells
        have hc := fun W (h : PktAt W pk B d) => checkP_any pk B d W h
        cases hok : pk.ok
        · simp only [hok, Bool.false_eq_true, if_false] at hc
          have HC := Lib.hid hc
          have hR9 : R = (Pkt.zero, false, a6, false) := by rw [HT.out]; simp [hok]
          clear hc hok
          go_wp2_with fail
          refine (HC.out _ (HAT.out _ _ _ T.out.own)).mono ?_
          rintro e v1 ⟨rfl, hb⟩
          have T9 := Lib.hid (T.out.below hb)
          clear hb T c0 c1 c2 c3 c4 c5 c6 c7 c8
          have T := T9
          clear T9
          have f0 := T.out.zr.fr
          obtain ⟨c0, c1, c2, c3, c4, c5, c6, c7, c8⟩ := T.out.zr.cells
          go_wp2_with fail
          change bodyPost _ _ _ _ _ (v1.setCells z 0 (Pkt.zero.cs none 0))
          obtain ⟨r1, r2, r3⟩ := T.out.put (Pkt.zero.cs none 0)
          refine bodyPost_ret (v := .tuple #[Pkt.zero.val none 0, .bool false]) ?_ rfl ⟨none, 0, by rw [hR9], by rw [hR9]; exact Own.nil _ _ _ _, by rw [hR9]; exact r2, r3⟩
          rw [results_cell_tmp rfl]
          have h9 := T.out.res Pkt.zero none 0
          clear c0 c1 c2 c3 c4 c5 c6 c7 c8 f0
          simp [asAddr, h9]
        · simp only [hok, if_true] at hc
          have HC := Lib.hid hc
          have hR9 : R = (pk, true, a6, false) := by rw [HT.out]; simp [hok]
          clear hc hok
          go_wp2_with fail
          refine (HC.out _ (HAT.out _ _ _ T.out.own)).mono ?_
          rintro e v1 ⟨rfl, hb⟩
          have T9 := Lib.hid (T.out.below hb)
          clear hb T c0 c1 c2 c3 c4 c5 c6 c7 c8
          have T := T9
          clear T9
          obtain ⟨c0, c1, c2, c3, c4, c5, c6, c7, c8⟩ := T.out.pv.cells
          have f0 := T.out.zr.fr
          obtain ⟨x0, x1, x2, x3, x4, x5, x6, x7, x8⟩ := T.out.zr.cells
          go_wp2_with fail
          change bodyPost _ _ _ _ _ (v1.setCells z 0 (pk.cs B d))
          obtain ⟨r1, r2, r3⟩ := T.out.put (pk.cs B d)
          refine bodyPost_ret (v := .tuple #[pk.val B d, .bool true]) ?_ rfl ⟨B, d, by rw [hR9], by rw [hR9]; exact r1, by rw [hR9]; exact r2, r3⟩
          rw [results_cell_tmp rfl]
          have h9 := T.out.res pk B d
          clear c0 c1 c2 c3 c4 c5 c6 c7 c8 x0 x1 x2 x3 x4 x5 x6 x7 x8 f0
          simp [asAddr, h9]
      · have hR9 : R = (Pkt.zero, false, a6, true) := by rw [HT.out]; simp
        have f0 := T.out.zr.fr
        obtain ⟨c0, c1, c2, c3, c4, c5, c6, c7, c8⟩ := T.out.zr.cells
        go_wp2_with fail
        change bodyPost _ _ _ _ _ (w12.setCells z 0 (Pkt.zero.cs none 0))
        obtain ⟨r1, r2, r3⟩ := T.out.put (Pkt.zero.cs none 0)
        refine bodyPost_ret (v := .tuple #[Pkt.zero.val none 0, .bool false]) ?_ rfl ⟨none, 0, by rw [hR9], by rw [hR9]; exact Own.nil _ _ _ _, by rw [hR9]; exact r2, r3⟩
        rw [results_cell_tmp rfl]
        have h9 := T.out.res Pkt.zero none 0
        clear c0 c1 c2 c3 c4 c5 c6 c7 c8 f0
        simp [asAddr, h9]
  by_cases h4 : k = 4
  · subst h4
    obtain ⟨o, a4, b4, e4⟩ : ∃ k a1' b1', rdN xs (a3, b3) = (k, a1', b1') := ⟨_, _, _, rfl⟩
    have ho := rdN_bd (xs := xs) (s := (a3, b3)) hnu.2.2
    rw [e4] at ho
    simp only at ho
    obtain ⟨se, a5, b5, e5⟩ : ∃ k a1' b1', rdN xs (a4, b4) = (k, a1', b1') := ⟨_, _, _, rfl⟩
    have hse := rdN_bd (xs := xs) (s := (a4, b4)) ho.2.2
    rw [e5] at hse
    simp only at hse
    obtain ⟨li, a6, b6, e6⟩ : ∃ k a1' b1', rdN xs (a5, b5) = (k, a1', b1') := ⟨_, _, _, rfl⟩
    have hli := rdN_bd (xs := xs) (s := (a5, b5)) hse.2.2
    rw [e6] at hli
    simp only at hli
    have hrp : readP xs (a, bad) = (⟨4, pa, nu, o, 0, [], false, se, li⟩, true, a6, b6) := by simp [readP, e1, e2, e3, e4, e5, e6]
    obtain ⟨pk, hpk⟩ : ∃ pk : Pkt, ⟨4, pa, nu, o, 0, [], false, se, li⟩ = pk := ⟨_, rfl⟩
    rw [hpk] at hrp
    have HPK := Lib.hid hpk
    have HT := Lib.hid (show R = if (true && !b6 && pk.ok) = true then (pk, true, a6, b6) else (Pkt.zero, false, a6, b6) by rw [← hR]; unfold takeP; rw [hrp])
    have HAT := Lib.hid (fun (W : World) (B : Option Addr) (d : Nat) (h : Own .u8 5 W w.heap.size (.slice B pk.da.length d) pk.da) => pktAt_of (p := pk) h (by subst hpk; simp) (by subst hpk; simp) (by subst hpk; simp) (by subst hpk; simp; omega) (by subst hpk; simp; omega) (by subst hpk; simp; omega) (by subst hpk; simp) (by subst hpk; simp; omega) (by subst hpk; simp; omega))
    clear hrp hR hpk
    have HR := Lib.hid hr
    have hpl := HR.out.lt
    have HPL := Lib.hid hpl
    clear hr hpl
    have E1 := Lib.hid e1
    have E2 := Lib.hid e2
    have E3 := Lib.hid e3
    have E4 := Lib.hid e4
    have E5 := Lib.hid e5
    have E6 := Lib.hid e6
    clear e1 e2 e3 e4 e5 e6
    go_enter Try.func91, Try.ntmps91
    go_wp2_with fail
    refine (rdO_call (HR.out.alloc _) E1.out).mono ?_
    rintro e w1 ⟨rfl, hr1, hg1⟩
    have T := Lib.hid (TK.begin 4 HPL.out hr1 hg1)
    clear hr1 hg1
    unfold Pkt.cs at T
    simp only [List.length_nil] at T
    go_wp2_with fail
    obtain ⟨w2, hw2⟩ : ∃ W, w1.alloc (.cells #[.int .i64 4, .int .i64 0, .int .i64 0, .int .i64 0, .int .i64 0, .slice none 0 0, .bool false, .int .i64 0, .int .i64 0] 58) = W := ⟨_, rfl⟩
    rw [hw2] at T ⊢
    obtain ⟨q, hq⟩ : ∃ q, w1.heap.size = q := ⟨_, rfl⟩
    obtain ⟨z, hz⟩ : ∃ z, w.heap.size = z := ⟨_, rfl⟩
    rw [hq, hz] at T ⊢
    clear hq hw2
    refine (rdN_call T.out.rd E2.out).mono ?_
    rintro e w3 ⟨rfl, hr3, hg3⟩
    have T9 := Lib.hid (T.out.call hr3 hg3)
    clear hr3 hg3 T
    have f9 := T9.out.pv.fr 1
    have c9 := T9.out.pv.cells.c1
    have c0 := T9.out.pv.cells.c0
    have T := Lib.hid (T9.out.store (T9.out.pv.pa pa) rfl)
    clear T9
    go_wp2_with fail
    obtain ⟨w4, hw9⟩ : ∃ V, w3.setCell ⟨q, 1, none⟩ (.int .i64 pa) = V := ⟨_, rfl⟩
    rw [hw9] at T ⊢
    clear hw9 f9 c9 c0
    refine (rdN_call T.out.rd E3.out).mono ?_
    rintro e w5 ⟨rfl, hr3, hg3⟩
    have T9 := Lib.hid (T.out.call hr3 hg3)
    clear hr3 hg3 T
    have f9 := T9.out.pv.fr 2
    have c9 := T9.out.pv.cells.c2
    have c0 := T9.out.pv.cells.c0
    have T := Lib.hid (T9.out.store (T9.out.pv.nu nu) rfl)
    clear T9
    go_wp2_with fail
    obtain ⟨w6, hw9⟩ : ∃ V, w5.setCell ⟨q, 2, none⟩ (.int .i64 nu) = V := ⟨_, rfl⟩
    rw [hw9] at T ⊢
    clear hw9 f9 c9 c0
    refine (rdN_call T.out.rd E4.out).mono ?_
    rintro e w7 ⟨rfl, hr3, hg3⟩
    have T9 := Lib.hid (T.out.call hr3 hg3)
    clear hr3 hg3 T
    have f9 := T9.out.pv.fr 3
    have c9 := T9.out.pv.cells.c3
    have c0 := T9.out.pv.cells.c0
    have T := Lib.hid (T9.out.store (T9.out.pv.ofn o) rfl)
    clear T9
    go_wp2_with fail
    obtain ⟨w8, hw9⟩ : ∃ V, w7.setCell ⟨q, 3, none⟩ (.int .i64 o) = V := ⟨_, rfl⟩
    rw [hw9] at T ⊢
    clear hw9 f9 c9 c0
    refine (rdN_call T.out.rd E5.out).mono ?_
    rintro e w9 ⟨rfl, hr3, hg3⟩
    have T9 := Lib.hid (T.out.call hr3 hg3)
    clear hr3 hg3 T
    have f9 := T9.out.pv.fr 7
    have c9 := T9.out.pv.cells.c7
    have c0 := T9.out.pv.cells.c0
    have T := Lib.hid (T9.out.store (T9.out.pv.se se) rfl)
    clear T9
    go_wp2_with fail
    obtain ⟨w10, hw9⟩ : ∃ V, w9.setCell ⟨q, 7, none⟩ (.int .i64 se) = V := ⟨_, rfl⟩
    rw [hw9] at T ⊢
    clear hw9 f9 c9 c0
    refine (rdN_call T.out.rd E6.out).mono ?_
    rintro e w11 ⟨rfl, hr3, hg3⟩
    have T9 := Lib.hid (T.out.call hr3 hg3)
    clear hr3 hg3 T
    have f9 := T9.out.pv.fr 8
    have c9 := T9.out.pv.cells.c8
    have c0 := T9.out.pv.cells.c0
    have T := Lib.hid (T9.out.store (T9.out.pv.li li) rfl)
    clear T9
    go_wp2_with fail
    obtain ⟨w12, hw9⟩ : ∃ V, w11.setCell ⟨q, 8, none⟩ (.int .i64 li) = V := ⟨_, rfl⟩
    rw [hw9] at T ⊢
    clear hw9 f9 c9 c0
    try rw [HPK.out] at T
    refine (bad_any T.out.rd).mono ?_
    rintro e w9 ⟨rfl, rfl⟩
    cases b6
    · obtain ⟨c0, c1, c2, c3, c4, c5, c6, c7, c8⟩ := T.out.pv.cells
      have hc := fun W (h : PktAt W pk none 0) => checkP_any pk none 0 W h
      cases hok : pk.ok
      · simp only [hok, Bool.false_eq_true, if_false] at hc
        have HC := Lib.hid hc
        have hR9 : R = (Pkt.zero, false, a6, false) := by rw [HT.out]; simp [hok]
        clear hc hok
        go_wp2_with fail
        refine (HC.out _ (HAT.out _ _ _ T.out.own)).mono ?_
        rintro e v1 ⟨rfl, hb⟩
        have T9 := Lib.hid (T.out.below hb)
        clear hb T c0 c1 c2 c3 c4 c5 c6 c7 c8
        have T := T9
        clear T9
        have f0 := T.out.zr.fr
        obtain ⟨c0, c1, c2, c3, c4, c5, c6, c7, c8⟩ := T.out.zr.cells
        go_wp2_with fail
        change bodyPost _ _ _ _ _ (v1.setCells z 0 (Pkt.zero.cs none 0))
        obtain ⟨r1, r2, r3⟩ := T.out.put (Pkt.zero.cs none 0)
        refine bodyPost_ret (v := .tuple #[Pkt.zero.val none 0, .bool false]) ?_ rfl ⟨none, 0, by rw [hR9], by rw [hR9]; exact Own.nil _ _ _ _, by rw [hR9]; exact r2, r3⟩
        rw [results_cell_tmp rfl]
        have h9 := T.out.res Pkt.zero none 0
        clear c0 c1 c2 c3 c4 c5 c6 c7 c8 f0
        simp [asAddr, h9]
      · simp only [hok, if_true] at hc
        have HC := Lib.hid hc
        have hR9 : R = (pk, true, a6, false) := by rw [HT.out]; simp [hok]
        clear hc hok
        go_wp2_with fail
        refine (HC.out _ (HAT.out _ _ _ T.out.own)).mono ?_
        rintro e v1 ⟨rfl, hb⟩
        have T9 := Lib.hid (T.out.below hb)
        clear hb T c0 c1 c2 c3 c4 c5 c6 c7 c8
        have T := T9
        clear T9
        obtain ⟨c0, c1, c2, c3, c4, c5, c6, c7, c8⟩ := T.out.pv.cells
        have f0 := T.out.zr.fr
        obtain ⟨x0, x1, x2, x3, x4, x5, x6, x7, x8⟩ := T.out.zr.cells
        go_wp2_with fail
        change bodyPost _ _ _ _ _ (v1.setCells z 0 (pk.cs none 0))
        obtain ⟨r1, r2, r3⟩ := T.out.put (pk.cs none 0)
        refine bodyPost_ret (v := .tuple #[pk.val none 0, .bool true]) ?_ rfl ⟨none, 0, by rw [hR9], by rw [hR9]; exact r1, by rw [hR9]; exact r2, r3⟩
        rw [results_cell_tmp rfl]
        have h9 := T.out.res pk none 0
        clear c0 c1 c2 c3 c4 c5 c6 c7 c8 x0 x1 x2 x3 x4 x5 x6 x7 x8 f0
        simp [asAddr, h9]
    · have hR9 : R = (Pkt.zero, false, a6, true) := by rw [HT.out]; simp
      have f0 := T.out.zr.fr
      obtain ⟨c0, c1, c2, c3, c4, c5, c6, c7, c8⟩ := T.out.zr.cells
      go_wp2_with fail
      change bodyPost _ _ _ _ _ (w12.setCells z 0 (Pkt.zero.cs none 0))
      obtain ⟨r1, r2, r3⟩ := T.out.put (Pkt.zero.cs none 0)
      refine bodyPost_ret (v := .tuple #[Pkt.zero.val none 0, .bool false]) ?_ rfl ⟨none, 0, by rw [hR9], by rw [hR9]; exact Own.nil _ _ _ _, by rw [hR9]; exact r2, r3⟩
      rw [results_cell_tmp rfl]
      have h9 := T.out.res Pkt.zero none 0
      clear c0 c1 c2 c3 c4 c5 c6 c7 c8 f0
      simp [asAddr, h9]
  have hrp : readP xs (a, bad) = (⟨k, pa, nu, 0, 0, [], false, 0, 0⟩, true, a3, b3) := by simp [readP, e1, e2, e3, h2, h3, h4]
  obtain ⟨pk, hpk⟩ : ∃ pk : Pkt, ⟨k, pa, nu, 0, 0, [], false, 0, 0⟩ = pk := ⟨_, rfl⟩
  rw [hpk] at hrp
  have HPK := Lib.hid hpk
  have HT := Lib.hid (show R = if (true && !b3 && pk.ok) = true then (pk, true, a3, b3) else (Pkt.zero, false, a3, b3) by rw [← hR]; unfold takeP; rw [hrp])
  have HAT := Lib.hid (fun (W : World) (B : Option Addr) (d : Nat) (h : Own .u8 5 W w.heap.size (.slice B pk.da.length d) pk.da) => pktAt_of (p := pk) h (by subst hpk; simp) (by subst hpk; simp) (by subst hpk; simp; omega) (by subst hpk; simp; omega) (by subst hpk; simp; omega) (by subst hpk; simp) (by subst hpk; simp) (by subst hpk; simp) (by subst hpk; simp))
  clear hrp hR hpk
  have q2 : (k == 2) = false := by simp [h2]
  have q3 : (k == 3) = false := by simp [h3]
  have q4 : (k == 4) = false := by simp [h4]
  have HR := Lib.hid hr
  have hpl := HR.out.lt
  have HPL := Lib.hid hpl
  clear hr hpl
  have E1 := Lib.hid e1
  have E2 := Lib.hid e2
  have E3 := Lib.hid e3
  clear e1 e2 e3
  go_enter Try.func91, Try.ntmps91
  go_wp2_with fail
  refine (rdO_call (HR.out.alloc _) E1.out).mono ?_
  rintro e w1 ⟨rfl, hr1, hg1⟩
  have T := Lib.hid (TK.begin k HPL.out hr1 hg1)
  clear hr1 hg1
  unfold Pkt.cs at T
  simp only [List.length_nil] at T
  go_wp2_with fail
  obtain ⟨w2, hw2⟩ : ∃ W, w1.alloc (.cells #[.int .i64 k, .int .i64 0, .int .i64 0, .int .i64 0, .int .i64 0, .slice none 0 0, .bool false, .int .i64 0, .int .i64 0] 58) = W := ⟨_, rfl⟩
  rw [hw2] at T ⊢
  obtain ⟨q, hq⟩ : ∃ q, w1.heap.size = q := ⟨_, rfl⟩
  obtain ⟨z, hz⟩ : ∃ z, w.heap.size = z := ⟨_, rfl⟩
  rw [hq, hz] at T ⊢
  clear hq hw2
  refine (rdN_call T.out.rd E2.out).mono ?_
  rintro e w3 ⟨rfl, hr3, hg3⟩
  have T9 := Lib.hid (T.out.call hr3 hg3)
  clear hr3 hg3 T
  have f9 := T9.out.pv.fr 1
  have c9 := T9.out.pv.cells.c1
  have c0 := T9.out.pv.cells.c0
  have T := Lib.hid (T9.out.store (T9.out.pv.pa pa) rfl)
  clear T9
  go_wp2_with fail
  obtain ⟨w4, hw9⟩ : ∃ V, w3.setCell ⟨q, 1, none⟩ (.int .i64 pa) = V := ⟨_, rfl⟩
  rw [hw9] at T ⊢
  clear hw9 f9 c9 c0
  refine (rdN_call T.out.rd E3.out).mono ?_
  rintro e w5 ⟨rfl, hr3, hg3⟩
  have T9 := Lib.hid (T.out.call hr3 hg3)
  clear hr3 hg3 T
  have f9 := T9.out.pv.fr 2
  have c9 := T9.out.pv.cells.c2
  have c0 := T9.out.pv.cells.c0
  have T := Lib.hid (T9.out.store (T9.out.pv.nu nu) rfl)
  clear T9
  go_wp2_with fail
  obtain ⟨w6, hw9⟩ : ∃ V, w5.setCell ⟨q, 2, none⟩ (.int .i64 nu) = V := ⟨_, rfl⟩
  rw [hw9] at T ⊢
  clear hw9 f9 c9 c0
  try rw [HPK.out] at T
  refine (bad_any T.out.rd).mono ?_
  rintro e w9 ⟨rfl, rfl⟩
  cases b3
  · obtain ⟨c0, c1, c2, c3, c4, c5, c6, c7, c8⟩ := T.out.pv.cells
    have hc := fun W (h : PktAt W pk none 0) => checkP_any pk none 0 W h
    cases hok : pk.ok
    · simp only [hok, Bool.false_eq_true, if_false] at hc
      have HC := Lib.hid hc
      have hR9 : R = (Pkt.zero, false, a3, false) := by rw [HT.out]; simp [hok]
      clear hc hok
      go_wp2_with fail
      refine (HC.out _ (HAT.out _ _ _ T.out.own)).mono ?_
      rintro e v1 ⟨rfl, hb⟩
      have T9 := Lib.hid (T.out.below hb)
      clear hb T c0 c1 c2 c3 c4 c5 c6 c7 c8
      have T := T9
      clear T9
      have f0 := T.out.zr.fr
      obtain ⟨c0, c1, c2, c3, c4, c5, c6, c7, c8⟩ := T.out.zr.cells
      go_wp2_with fail
      change bodyPost _ _ _ _ _ (v1.setCells z 0 (Pkt.zero.cs none 0))
      obtain ⟨r1, r2, r3⟩ := T.out.put (Pkt.zero.cs none 0)
      refine bodyPost_ret (v := .tuple #[Pkt.zero.val none 0, .bool false]) ?_ rfl ⟨none, 0, by rw [hR9], by rw [hR9]; exact Own.nil _ _ _ _, by rw [hR9]; exact r2, r3⟩
      rw [results_cell_tmp rfl]
      have h9 := T.out.res Pkt.zero none 0
      clear c0 c1 c2 c3 c4 c5 c6 c7 c8 f0
      simp [asAddr, h9]
    · simp only [hok, if_true] at hc
      have HC := Lib.hid hc
      have hR9 : R = (pk, true, a3, false) := by rw [HT.out]; simp [hok]
      clear hc hok
      go_wp2_with fail
      refine (HC.out _ (HAT.out _ _ _ T.out.own)).mono ?_
      rintro e v1 ⟨rfl, hb⟩
      have T9 := Lib.hid (T.out.below hb)
      clear hb T c0 c1 c2 c3 c4 c5 c6 c7 c8
      have T := T9
      clear T9
      obtain ⟨c0, c1, c2, c3, c4, c5, c6, c7, c8⟩ := T.out.pv.cells
      have f0 := T.out.zr.fr
      obtain ⟨x0, x1, x2, x3, x4, x5, x6, x7, x8⟩ := T.out.zr.cells
      go_wp2_with fail
      change bodyPost _ _ _ _ _ (v1.setCells z 0 (pk.cs none 0))
      obtain ⟨r1, r2, r3⟩ := T.out.put (pk.cs none 0)
      refine bodyPost_ret (v := .tuple #[pk.val none 0, .bool true]) ?_ rfl ⟨none, 0, by rw [hR9], by rw [hR9]; exact r1, by rw [hR9]; exact r2, r3⟩
      rw [results_cell_tmp rfl]
      have h9 := T.out.res pk none 0
      clear c0 c1 c2 c3 c4 c5 c6 c7 c8 x0 x1 x2 x3 x4 x5 x6 x7 x8 f0
      simp [asAddr, h9]
  · have hR9 : R = (Pkt.zero, false, a3, true) := by rw [HT.out]; simp
    have f0 := T.out.zr.fr
    obtain ⟨c0, c1, c2, c3, c4, c5, c6, c7, c8⟩ := T.out.zr.cells
    go_wp2_with fail
    change bodyPost _ _ _ _ _ (w6.setCells z 0 (Pkt.zero.cs none 0))
    obtain ⟨r1, r2, r3⟩ := T.out.put (Pkt.zero.cs none 0)
    refine bodyPost_ret (v := .tuple #[Pkt.zero.val none 0, .bool false]) ?_ rfl ⟨none, 0, by rw [hR9], by rw [hR9]; exact Own.nil _ _ _ _, by rw [hR9]; exact r2, r3⟩
    rw [results_cell_tmp rfl]
    have h9 := T.out.res Pkt.zero none 0
    clear c0 c1 c2 c3 c4 c5 c6 c7 c8 f0
    simp [asAddr, h9]
end Go.Proofs.Ytbjneoeiognahaa
