/-
  What the document's TakePacket takes of a Reader: a contract over the program.
-/
import Derived.Test.YtbjneoeiognahaaRefVar
import Derived.Test.YtbjneoeiognahaaRefPlain
import Derived.Test.YtbjneoeiognahaaRefTakeMath
import Derived.Test.YtbjneoeiognahaaBase
import Derived.Deep.QuietTactic
import Derived.Deep.DeepCutAuto
import Derived.BigQuiet
namespace Go.Proofs.Ytbjneoeiognahaa
open Go.RowKit

section
variable {w : World} {p : Nat} {A : Option Addr} {c : Nat} {xs : List Int} {a : Nat} {bad : Bool}
set_option maxRecDepth 10000 in
theorem refN_call {v : Int} {a' : Nat} {b' : Bool} (h : RefS w p A c xs a bad) (hv : rdN xs (a, bad) = (v, a', b')) :
    Calls Try.prog 76 #[.pointer (some ⟨p, 0, none⟩)] w fun e w' => e = .returned (.int .i64 v) ∧ RefS w' p A c xs a' b' ∧ w.grownBy w' (some p) := by
  unfold rdN at hv
  simp only [Prod.mk.injEq] at hv
  obtain ⟨rfl, rfl, rfl⟩ := hv
  exact refNumberS_any h
set_option maxRecDepth 10000 in
theorem refO_call {v : Int} {a' : Nat} {b' : Bool} (h : RefS w p A c xs a bad) (hv : rdO xs (a, bad) = (v, a', b')) :
    Calls Try.prog 74 #[.pointer (some ⟨p, 0, none⟩)] w fun e w' => e = .returned (.int .u8 v) ∧ RefS w' p A c xs a' b' ∧ w.grownBy w' (some p) := by
  unfold rdO at hv
  simp only at hv
  have := refByteS_any h
  rw [hv] at this
  exact this
set_option maxRecDepth 10000 in
theorem refB_call {m : Int} {v : List Int} {a' : Nat} {b' : Bool} (h : RefS w p A c xs a bad) (hv : rdB m xs (a, bad) = (v, a', b')) :
    Calls Try.prog 75 #[.pointer (some ⟨p, 0, none⟩), .int .i64 m] w fun e w' =>
      ∃ A' c', e = .returned (.slice A' v.length c') ∧ Own .u8 5 w' w.heap.size (.slice A' v.length c') v ∧ RefS w' p A c xs a' b' ∧ w.grownBy w' (some p) := by
  unfold rdB at hv
  simp only at hv
  have := refBytesS_any m h
  rw [hv] at this
  exact this
end
set_option maxRecDepth 10000 in
/-- Bytes as texts: alike where the bytes are. -/
theorem str_cmp {xs ys : List Int} (bx : ∀ x ∈ xs, 0 ≤ x ∧ x < 256) (by' : ∀ x ∈ ys, 0 ≤ x ∧ x < 256) : ((strOfNums xs).toList == (strOfNums ys).toList) = decide (xs = ys) := by
  by_cases e : xs = ys
  · subst e; simp
  · have : ¬ (strOfNums xs).toList = (strOfNums ys).toList := fun h => e (by
      rw [Lib.toList_data, Lib.toList_data] at h
      exact map_byte_inj _ _ bx by' (by simpa [strOfNums] using h))
    rw [beq_eq_false_iff_ne.2 this, decide_eq_false e]
set_option maxRecDepth 10000 in
theorem plainL_bytes {pk : Pkt} (hok : pk.ok = true) (hb : ∀ x ∈ pk.da, 0 ≤ x ∧ x < 256) : ∀ x ∈ pk.plainL, 0 ≤ x ∧ x < 256 := by
  intro x hx
  have hpk := Pkt.ok_kind hok
  have hm : ∀ b, 0 ≤ markV b ∧ markV b < 256 := by intro b; unfold markV; split <;> omega
  unfold Pkt.plainL at hx
  simp only [List.mem_append, List.mem_cons, List.not_mem_nil, or_false] at hx
  rcases hx with ((rfl | hx) | hx) | hx
  · omega
  · exact putL_bytes _ x hx
  · exact putL_bytes _ x hx
  · unfold Pkt.fieldsL at hx
    repeat' split at hx
    all_goals (try simp only [List.mem_append, List.mem_cons, List.not_mem_nil, or_false] at hx)
    all_goals first
      | exact putL_bytes _ x hx
      | (rcases hx with ((hx | hx) | hx); exact putL_bytes _ x hx; exact putL_bytes _ x hx; exact putL_bytes _ x hx)
      | (rcases hx with (hx | (hx | hx)) | hx; exact putL_bytes _ x hx; exact putL_bytes _ x hx; exact hb x hx; exact hx ▸ hm _)
      | (rcases hx with ((hx | hx) | hx) | hx; exact putL_bytes _ x hx; exact putL_bytes _ x hx; exact hb x hx; exact hx ▸ hm _)
      | (exact absurd hx (by simp))

set_option maxRecDepth 100000 in
set_option maxHeartbeats 4000000 in
theorem refTakeP_any (w : World) (p : Nat) (A : Option Addr) (c : Nat) (xs : List Int) (a : Nat) (bad : Bool) (hr : RefS w p A c xs a bad) :
    Calls Try.prog 77 #[.pointer (some ⟨p, 0, none⟩)] w fun e w' => ∃ A' c', e = .returned (.tuple #[(takeP xs (a, bad)).1.val A' c', .bool (takeP xs (a, bad)).2.1]) ∧
      Own .u8 5 w' w.heap.size (.slice A' (takeP xs (a, bad)).1.da.length c') (takeP xs (a, bad)).1.da ∧ RefS w' p A c xs (takeP xs (a, bad)).2.2.1 (takeP xs (a, bad)).2.2.2 ∧ w.grownBy w' (some p) := by
  obtain ⟨k, a1, b1, e1⟩ : ∃ k a1 b1, rdO xs (a, bad) = (k, a1, b1) := ⟨_, _, _, rfl⟩
  obtain ⟨pa, a2, b2, e2⟩ : ∃ k a1' b1', rdN xs (a1, b1) = (k, a1', b1') := ⟨_, _, _, rfl⟩
  obtain ⟨nu, a3, b3, e3⟩ : ∃ k a1' b1', rdN xs (a2, b2) = (k, a1', b1') := ⟨_, _, _, rfl⟩
  have hk := rdO_bd (s := (a, bad)) hr.le hr.bytes
  rw [e1] at hk
  have hpa := rdN_bd (xs := xs) (s := (a1, b1)) hk.2.2
  rw [e2] at hpa
  have hnu := rdN_bd (xs := xs) (s := (a2, b2)) hpa.2.2
  rw [e3] at hnu
  simp only at hk hpa hnu
  have hw9 : wrap64 k = k := by unfold wrap64; omega
  obtain ⟨R, hR⟩ : ∃ R, takeP xs (a, bad) = R := ⟨_, rfl⟩
  rw [hR]
  by_cases h2 : k = 2
  · subst h2
    obtain ⟨o, a4, b4, e4⟩ : ∃ k a1' b1', rdN xs (a3, b3) = (k, a1', b1') := ⟨_, _, _, rfl⟩
    have ho := rdN_bd (xs := xs) (s := (a3, b3)) hnu.2.2
    rw [e4] at ho
    simp only at ho
    have hrp : readP xs (a, bad) = (⟨2, pa, nu, o, 0, [], false, 0, 0⟩, true, a4, b4) := by simp [readP, e1, e2, e3, e4]
    obtain ⟨pk, hpk⟩ : ∃ pk : Pkt, ⟨2, pa, nu, o, 0, [], false, 0, 0⟩ = pk := ⟨_, rfl⟩
    rw [hpk] at hrp
    have HPK := Lib.hid hpk
    have HT := Lib.hid (show R = if (true && !b4 && pk.ok) = true then (pk, true, a4, b4) else (Pkt.zero, false, a4, b4) by rw [← hR]; unfold takeP; rw [hrp])
    have HCM := Lib.hid (show b4 = false → a ≤ a4 ∧ a4 ≤ xs.length ∧ decide (pk.plainL = (xs.drop a).take (a4 - a)) = true from fun h9 => readP_cmp hr.bytes hr.le (by rw [hrp, h9]))
    have HAT := Lib.hid (fun (W : World) (B : Option Addr) (d : Nat) (h : Own .u8 5 W w.heap.size (.slice B pk.da.length d) pk.da) => pktAt_of (p := pk) h (by subst hpk; simp) (by subst hpk; simp) (by subst hpk; simp) (by subst hpk; simp; omega) (by subst hpk; simp; omega) (by subst hpk; simp; omega) (by subst hpk; simp) (by subst hpk; simp) (by subst hpk; simp))
    clear hrp hR hpk
    have HR := Lib.hid hr
    have hpl := HR.out.lt
    have HPL := Lib.hid hpl
    clear hr hpl
    have E1 := Lib.hid e1
    have E2 := Lib.hid e2
    have E3 := Lib.hid e3
    have E4 := Lib.hid e4
    clear e1 e2 e3 e4
    go_enter Try.func77, Try.ntmps77
    have cz : (w.alloc (.cells #[.int .i64 0, .int .i64 0, .int .i64 0, .int .i64 0, .int .i64 0, .slice none 0 0, .bool false, .int .i64 0, .int .i64 0] 58)).cell? ⟨p, 0 + 1, none⟩ = some (.int .i64 (a : Nat)) := (HR.out.alloc _).c1
    go_wp2_with fail
    clear cz
    refine (refO_call (HR.out.alloc _) E1.out).mono ?_
    rintro e w1 ⟨rfl, hr1, hg1⟩
    have T := Lib.hid (TR.begin 2 HR.out hr1 hg1)
    clear hr1 hg1
    unfold Pkt.cs at T
    simp only [List.length_nil] at T
    go_wp2_with fail
    obtain ⟨w2, hw2⟩ : ∃ W, w1.alloc (.cells #[.int .i64 2, .int .i64 0, .int .i64 0, .int .i64 0, .int .i64 0, .slice none 0 0, .bool false, .int .i64 0, .int .i64 0] 58) = W := ⟨_, rfl⟩
    rw [hw2] at T ⊢
    obtain ⟨q, hq⟩ : ∃ q, w1.heap.size = q := ⟨_, rfl⟩
    obtain ⟨z, hz⟩ : ∃ z, w.heap.size = z := ⟨_, rfl⟩
    rw [hq, hz] at T ⊢
    clear hq hw2
    refine (refN_call T.out.rd E2.out).mono ?_
    rintro e w3 ⟨rfl, hr3, hg3⟩
    have T9 := Lib.hid (T.out.call hr3 hg3)
    clear hr3 hg3 T
    have f9 := T9.out.pv.fr 1
    have c9 := T9.out.pv.cells.c1
    have c0 := T9.out.pv.cells.c0
    have T := Lib.hid (T9.out.store (T9.out.pv.pa pa) rfl)
    clear T9
    go_wp2_with fail
    obtain ⟨w4, hw9⟩ : ∃ V, w3.setCell ⟨q, 1, none⟩ (.int .i64 pa) = V := ⟨_, rfl⟩
    rw [hw9] at T ⊢
    clear hw9 f9 c9 c0
    refine (refN_call T.out.rd E3.out).mono ?_
    rintro e w5 ⟨rfl, hr3, hg3⟩
    have T9 := Lib.hid (T.out.call hr3 hg3)
    clear hr3 hg3 T
    have f9 := T9.out.pv.fr 2
    have c9 := T9.out.pv.cells.c2
    have c0 := T9.out.pv.cells.c0
    have T := Lib.hid (T9.out.store (T9.out.pv.nu nu) rfl)
    clear T9
    go_wp2_with fail
    obtain ⟨w6, hw9⟩ : ∃ V, w5.setCell ⟨q, 2, none⟩ (.int .i64 nu) = V := ⟨_, rfl⟩
    rw [hw9] at T ⊢
    clear hw9 f9 c9 c0
    refine (refN_call T.out.rd E4.out).mono ?_
    rintro e w7 ⟨rfl, hr3, hg3⟩
    have T9 := Lib.hid (T.out.call hr3 hg3)
    clear hr3 hg3 T
    have f9 := T9.out.pv.fr 3
    have c9 := T9.out.pv.cells.c3
    have c0 := T9.out.pv.cells.c0
    have T := Lib.hid (T9.out.store (T9.out.pv.ofn o) rfl)
    clear T9
    go_upto_region 16 with (fail)
    obtain ⟨w8, hw9⟩ : ∃ V, w7.setCell ⟨q, 3, none⟩ (.int .i64 o) = V := ⟨_, rfl⟩
    rw [hw9] at T ⊢
    clear hw9 f9 c9 c0
    try rw [HPK.out] at T
    obtain ⟨c0, c1, c2, c3, c4, c5, c6, c7, c8⟩ := T.out.pv.cells
    have hat9 := HAT.out _ _ _ T.out.own
    have hpc := refPlain_any pk none 0 w8 hat9
    obtain ⟨PL, hPL⟩ : ∃ PL, pk.plainO = PL := ⟨_, rfl⟩
    obtain ⟨s, hs⟩ : ∃ s, pk.ok = s := ⟨_, rfl⟩
    rw [hPL, hs] at hpc
    unfold Pkt.val at hpc
    have HPC := Lib.hid hpc
    have HPL9 := Lib.hid hPL
    have HS := Lib.hid hs
    have HPB := Lib.hid hat9.byt
    clear hpc hPL hs hat9
    go_wp2_with fail
    refine HPC.out.mono ?_
    rintro e v1 ⟨PA, pc, rfl, hpo, hb⟩
    have T9 := Lib.hid (T.out.below hb)
    have HPO := Lib.hid hpo
    clear hb hpo HPC T c0 c1 c2 c3 c4 c5 c6 c7 c8
    have r0 := T9.out.rd.c0
    have r1 := T9.out.rd.c1
    have r2 := T9.out.rd.c2
    cases b4
    · cases s
      · have hR9 : R = (Pkt.zero, false, a4, false) := by rw [HT.out, HS.out]; simp
        have KALL := True.intro
        go_wp2_with fail
        go_quiet (fail)
        rename Nat => k1
        have TD := Lib.hid (T9.out.drewN k1)
        clear T9 r0 r1 r2 KALL
        have T := TD
        clear TD
        obtain ⟨v2, hv2⟩ : ∃ V, v1.drewN k1 = V := ⟨_, rfl⟩
        rw [hv2] at T ⊢
        clear hv2
        have f0 := T.out.zr.fr
        obtain ⟨c0, c1, c2, c3, c4, c5, c6, c7, c8⟩ := T.out.zr.cells
        go_wp2_with fail
        change bodyPost _ _ _ _ _ (v2.setCells z 0 (Pkt.zero.cs none 0))
        obtain ⟨r1, r2, r3⟩ := T.out.put (Pkt.zero.cs none 0)
        refine bodyPost_ret (v := .tuple #[Pkt.zero.val none 0, .bool false]) ?_ rfl ⟨none, 0, by rw [hR9], by rw [hR9]; exact Own.nil _ _ _ _, by rw [hR9]; exact r2, r3⟩
        rw [results_cell_tmp rfl]
        have h9 := T.out.res Pkt.zero none 0
        clear c0 c1 c2 c3 c4 c5 c6 c7 c8 f0
        simp [asAddr, h9]
      · have hcm := HCM.out rfl
        have HCMM := Lib.hid hcm
        have hle9 := T9.out.rd.le
        have hcap9 := T9.out.rd.own.cap
        have hx1 := hcm.1
        have hx2 := hcm.2.1
        obtain ⟨M, hM⟩ : ∃ M, (xs.drop a).take (a4 - a) = M := ⟨_, rfl⟩
        have hMl : M.length = a4 - a := by rw [← hM]; simp; omega
        obtain ⟨A9, hA9⟩ : ∃ A9, (if c = a then A else A.map (·.add a)) = A9 := ⟨_, rfl⟩
        have hrd9 := ((T9.out.rd.own.rd.drop a c (by omega) (by omega)).take (a4 - a))
        rw [hA9, hM] at hrd9
        have hsl : ∀ W, (Instr.sliceAt 23 (.slice A xs.length c) (some (.int .i64 (a : Nat))) (some (.int .i64 (a4 : Nat))) none).run Try.prog W = .ok (.slice A9 (a4 - a) (c - a)) W := fun W => by
          rw [← hA9]
          rw [run_sliceAt_slice _ _ _ _ _ _ Try.underlying23, run_slice_lh (P := Try.prog) W 23 A xs.length c Try.underlying23 .i64 .i64 (a : Int) (a4 : Int) (by omega) (by omega) (by omega)]
          go_simp
        have hK1 : ∀ k, (convert 23 9 (.slice PA PL.length pc)).run Try.prog (v1.drewN k) = .ok (.string (strOfNums PL)) (v1.drewN k) := fun k => conv_rd pc rfl (HPO.out.rd.drewN k)
        have hK2 : ∀ k, (convert 23 9 (.slice A9 (a4 - a) (c - a))).run Try.prog (v1.drewN k) = .ok (.string (strOfNums M)) (v1.drewN k) := fun k => conv_rd (c - a) hMl (hrd9.drewN k)
        have hPL9 : pk.plainL = PL := by have h9 := HPL9.out; unfold Pkt.plainO at h9; rw [HS.out, if_pos rfl] at h9; exact h9
        have hcmp : ((strOfNums PL).toList == (strOfNums M).toList) = true := by
          rw [str_cmp (by rw [← hPL9]; exact plainL_bytes HS.out HPB.out) (by rw [← hM]; exact fun x hx => T9.out.rd.bytes x (List.mem_of_mem_drop (List.mem_of_mem_take hx))), ← hM, ← hPL9]
          exact hcm.2.2
        clear hcm hle9 hcap9 hx1 hx2 hM hMl hA9 hrd9 hPL9 HCMM
        have hR9 : R = (pk, true, a4, false) := by rw [HT.out, HS.out]; simp
        have KALL := True.intro
        go_wp2_with fail
        go_quiet (fail)
        rename Nat => k1
        have TD := Lib.hid (T9.out.drewN k1)
        clear T9 r0 r1 r2 KALL hsl hK1 hK2 hcmp
        have T := TD
        clear TD
        obtain ⟨v2, hv2⟩ : ∃ V, v1.drewN k1 = V := ⟨_, rfl⟩
        rw [hv2] at T ⊢
        clear hv2
        obtain ⟨c0, c1, c2, c3, c4, c5, c6, c7, c8⟩ := T.out.pv.cells
        have f0 := T.out.zr.fr
        obtain ⟨x0, x1, x2, x3, x4, x5, x6, x7, x8⟩ := T.out.zr.cells
        go_wp2_with fail
        change bodyPost _ _ _ _ _ (v2.setCells z 0 (pk.cs none 0))
        obtain ⟨r1, r2, r3⟩ := T.out.put (pk.cs none 0)
        refine bodyPost_ret (v := .tuple #[pk.val none 0, .bool true]) ?_ rfl ⟨none, 0, by rw [hR9], by rw [hR9]; exact r1, by rw [hR9]; exact r2, r3⟩
        rw [results_cell_tmp rfl]
        have h9 := T.out.res pk none 0
        clear c0 c1 c2 c3 c4 c5 c6 c7 c8 x0 x1 x2 x3 x4 x5 x6 x7 x8 f0
        simp [asAddr, h9]
    · have hR9 : R = (Pkt.zero, false, a4, true) := by rw [HT.out]; simp
      have KALL := True.intro
      go_wp2_with fail
      go_quiet (fail)
      rename Nat => k1
      have TD := Lib.hid (T9.out.drewN k1)
      clear T9 r0 r1 r2 KALL
      have T := TD
      clear TD
      obtain ⟨v2, hv2⟩ : ∃ V, v1.drewN k1 = V := ⟨_, rfl⟩
      rw [hv2] at T ⊢
      clear hv2
      have f0 := T.out.zr.fr
      obtain ⟨c0, c1, c2, c3, c4, c5, c6, c7, c8⟩ := T.out.zr.cells
      go_wp2_with fail
      change bodyPost _ _ _ _ _ (v2.setCells z 0 (Pkt.zero.cs none 0))
      obtain ⟨r1, r2, r3⟩ := T.out.put (Pkt.zero.cs none 0)
      refine bodyPost_ret (v := .tuple #[Pkt.zero.val none 0, .bool false]) ?_ rfl ⟨none, 0, by rw [hR9], by rw [hR9]; exact Own.nil _ _ _ _, by rw [hR9]; exact r2, r3⟩
      rw [results_cell_tmp rfl]
      have h9 := T.out.res Pkt.zero none 0
      clear c0 c1 c2 c3 c4 c5 c6 c7 c8 f0
      simp [asAddr, h9]
  by_cases h3 : k = 3
  · subst h3
    obtain ⟨fr, a4, b4, e4⟩ : ∃ k a1' b1', rdN xs (a3, b3) = (k, a1', b1') := ⟨_, _, _, rfl⟩
    have ho := rdN_bd (xs := xs) (s := (a3, b3)) hnu.2.2
    rw [e4] at ho
    simp only at ho
    obtain ⟨da, a5, b5, e5⟩ : ∃ k a1' b1', rdB 64 xs (a4, b4) = (k, a1', b1') := ⟨_, _, _, rfl⟩
    have hda := rdB_bd (m := 64) (s := (a4, b4)) ho.2.2 hr.bytes
    rw [e5] at hda
    simp only at hda
    obtain ⟨f, a6, b6, e6⟩ : ∃ k a1' b1', rdO xs (a5, b5) = (k, a1', b1') := ⟨_, _, _, rfl⟩
    have hf := rdO_bd (s := (a5, b5)) hda.2.1 hr.bytes
    rw [e6] at hf
    simp only at hf
    obtain ⟨fm, hfm⟩ : ∃ b, decide (f = 1) = b := ⟨_, rfl⟩
    obtain ⟨fl, hfl⟩ : ∃ b, decide (f ≤ 1) = b := ⟨_, rfl⟩
    have hfq : (f == 1) = fm := by rw [← hfm]; by_cases h9 : f = 1 <;> simp [h9]
    have HFQ := Lib.hid hfq
    clear hfq
    have hrp : readP xs (a, bad) = (⟨3, pa, nu, 0, fr, da, fm, 0, 0⟩, fl, a6, b6) := by simp [readP, e1, e2, e3, e4, e5, e6, hfm, hfl]
    obtain ⟨pk, hpk⟩ : ∃ pk : Pkt, ⟨3, pa, nu, 0, fr, da, fm, 0, 0⟩ = pk := ⟨_, rfl⟩
    rw [hpk] at hrp
    have HPK := Lib.hid hpk
    have HT := Lib.hid (show R = if (fl && !b6 && pk.ok) = true then (pk, true, a6, b6) else (Pkt.zero, false, a6, b6) by rw [← hR]; unfold takeP; rw [hrp])
    have HCM := Lib.hid (show b6 = false → a ≤ a6 ∧ a6 ≤ xs.length ∧ decide (pk.plainL = (xs.drop a).take (a6 - a)) = fl from fun h9 => readP_cmp hr.bytes hr.le (by rw [hrp, h9]))
    have HAT := Lib.hid (fun (W : World) (B : Option Addr) (d : Nat) (h : Own .u8 5 W w.heap.size (.slice B pk.da.length d) pk.da) => pktAt_of (p := pk) h (by subst hpk; exact hda.1) (by subst hpk; simp; omega) (by subst hpk; simp) (by subst hpk; simp; omega) (by subst hpk; simp; omega) (by subst hpk; simp) (by subst hpk; simp; omega) (by subst hpk; simp) (by subst hpk; simp))
    clear hrp hR hpk
    clear hfm hfl
    have HR := Lib.hid hr
    have hpl := HR.out.lt
    have HPL := Lib.hid hpl
    clear hr hpl
    have E1 := Lib.hid e1
    have E2 := Lib.hid e2
    have E3 := Lib.hid e3
    have E4 := Lib.hid e4
    have E5 := Lib.hid e5
    have E6 := Lib.hid e6
    clear e1 e2 e3 e4 e5 e6
    go_enter Try.func77, Try.ntmps77
    have cz : (w.alloc (.cells #[.int .i64 0, .int .i64 0, .int .i64 0, .int .i64 0, .int .i64 0, .slice none 0 0, .bool false, .int .i64 0, .int .i64 0] 58)).cell? ⟨p, 0 + 1, none⟩ = some (.int .i64 (a : Nat)) := (HR.out.alloc _).c1
    go_wp2_with fail
    clear cz
    refine (refO_call (HR.out.alloc _) E1.out).mono ?_
    rintro e w1 ⟨rfl, hr1, hg1⟩
    have T := Lib.hid (TR.begin 3 HR.out hr1 hg1)
    clear hr1 hg1
    unfold Pkt.cs at T
    simp only [List.length_nil] at T
    go_wp2_with fail
    obtain ⟨w2, hw2⟩ : ∃ W, w1.alloc (.cells #[.int .i64 3, .int .i64 0, .int .i64 0, .int .i64 0, .int .i64 0, .slice none 0 0, .bool false, .int .i64 0, .int .i64 0] 58) = W := ⟨_, rfl⟩
    rw [hw2] at T ⊢
    obtain ⟨q, hq⟩ : ∃ q, w1.heap.size = q := ⟨_, rfl⟩
    obtain ⟨z, hz⟩ : ∃ z, w.heap.size = z := ⟨_, rfl⟩
    rw [hq, hz] at T ⊢
    clear hq hw2
    refine (refN_call T.out.rd E2.out).mono ?_
    rintro e w3 ⟨rfl, hr3, hg3⟩
    have T9 := Lib.hid (T.out.call hr3 hg3)
    clear hr3 hg3 T
    have f9 := T9.out.pv.fr 1
    have c9 := T9.out.pv.cells.c1
    have c0 := T9.out.pv.cells.c0
    have T := Lib.hid (T9.out.store (T9.out.pv.pa pa) rfl)
    clear T9
    go_wp2_with fail
    obtain ⟨w4, hw9⟩ : ∃ V, w3.setCell ⟨q, 1, none⟩ (.int .i64 pa) = V := ⟨_, rfl⟩
    rw [hw9] at T ⊢
    clear hw9 f9 c9 c0
    refine (refN_call T.out.rd E3.out).mono ?_
    rintro e w5 ⟨rfl, hr3, hg3⟩
    have T9 := Lib.hid (T.out.call hr3 hg3)
    clear hr3 hg3 T
    have f9 := T9.out.pv.fr 2
    have c9 := T9.out.pv.cells.c2
    have c0 := T9.out.pv.cells.c0
    have T := Lib.hid (T9.out.store (T9.out.pv.nu nu) rfl)
    clear T9
    go_wp2_with fail
    obtain ⟨w6, hw9⟩ : ∃ V, w5.setCell ⟨q, 2, none⟩ (.int .i64 nu) = V := ⟨_, rfl⟩
    rw [hw9] at T ⊢
    clear hw9 f9 c9 c0
    refine (refN_call T.out.rd E4.out).mono ?_
    rintro e w7 ⟨rfl, hr3, hg3⟩
    have T9 := Lib.hid (T.out.call hr3 hg3)
    clear hr3 hg3 T
    have f9 := T9.out.pv.fr 4
    have c9 := T9.out.pv.cells.c4
    have c0 := T9.out.pv.cells.c0
    have T := Lib.hid (T9.out.store (T9.out.pv.frm fr) rfl)
    clear T9
    go_wp2_with fail
    obtain ⟨w8, hw9⟩ : ∃ V, w7.setCell ⟨q, 4, none⟩ (.int .i64 fr) = V := ⟨_, rfl⟩
    rw [hw9] at T ⊢
    clear hw9 f9 c9 c0
    refine (refB_call (m := 64) T.out.rd E5.out).mono ?_
    rintro e w9 ⟨B, d, rfl, ho3, hr3, hg3⟩
    have ho4 := ho3.less (B' := w.heap.size) T.out.gr.size
    have T9 := Lib.hid (T.out.call hr3 hg3)
    clear hr3 hg3 T ho3
    have f9 := T9.out.pv.fr 5
    have c9 := T9.out.pv.cells.c5
    have T := Lib.hid (T9.out.data ho4)
    clear T9 ho4
    go_wp2_with fail
    obtain ⟨w10, hw9⟩ : ∃ V, w9.setCell ⟨q, 5, none⟩ (.slice B da.length d) = V := ⟨_, rfl⟩
    rw [hw9] at T ⊢
    clear hw9 f9 c9
    refine (refO_call T.out.rd E6.out).mono ?_
    rintro e w11 ⟨rfl, hr3, hg3⟩
    have T9 := Lib.hid (T.out.call hr3 hg3)
    clear hr3 hg3 T
    have hfq := HFQ.out
    have f9 := T9.out.pv.fr 6
    have c9 := T9.out.pv.cells.c6
    have c0 := T9.out.pv.cells.c0
    have T := Lib.hid (T9.out.store (T9.out.pv.fin fm) rfl)
    clear T9
    go_upto_region 16 with (fail)
    obtain ⟨w12, hw9⟩ : ∃ V, w11.setCell ⟨q, 6, none⟩ (.bool fm) = V := ⟨_, rfl⟩
    rw [hw9] at T ⊢
    clear hw9 f9 c9 c0
    try rw [HPK.out] at T
    obtain ⟨c0, c1, c2, c3, c4, c5, c6, c7, c8⟩ := T.out.pv.cells
    have hat9 := HAT.out _ _ _ T.out.own
    have hpc := refPlain_any pk B d w12 hat9
    obtain ⟨PL, hPL⟩ : ∃ PL, pk.plainO = PL := ⟨_, rfl⟩
    obtain ⟨s, hs⟩ : ∃ s, pk.ok = s := ⟨_, rfl⟩
    rw [hPL, hs] at hpc
    unfold Pkt.val at hpc
    have HPC := Lib.hid hpc
    have HPL9 := Lib.hid hPL
    have HS := Lib.hid hs
    have HPB := Lib.hid hat9.byt
    clear hpc hPL hs hat9
    go_wp2_with fail
    refine HPC.out.mono ?_
    rintro e v1 ⟨PA, pc, rfl, hpo, hb⟩
    have T9 := Lib.hid (T.out.below hb)
    have HPO := Lib.hid hpo
    clear hb hpo HPC T c0 c1 c2 c3 c4 c5 c6 c7 c8
    have r0 := T9.out.rd.c0
    have r1 := T9.out.rd.c1
    have r2 := T9.out.rd.c2
    cases b6
    · cases s
      · have hR9 : R = (Pkt.zero, false, a6, false) := by rw [HT.out, HS.out]; simp
        have KALL := True.intro
        go_wp2_with fail
        go_quiet (fail)
        rename Nat => k1
        have TD := Lib.hid (T9.out.drewN k1)
        clear T9 r0 r1 r2 KALL
        have T := TD
        clear TD
        obtain ⟨v2, hv2⟩ : ∃ V, v1.drewN k1 = V := ⟨_, rfl⟩
        rw [hv2] at T ⊢
        clear hv2
        have f0 := T.out.zr.fr
        obtain ⟨c0, c1, c2, c3, c4, c5, c6, c7, c8⟩ := T.out.zr.cells
        go_wp2_with fail
        change bodyPost _ _ _ _ _ (v2.setCells z 0 (Pkt.zero.cs none 0))
        obtain ⟨r1, r2, r3⟩ := T.out.put (Pkt.zero.cs none 0)
        refine bodyPost_ret (v := .tuple #[Pkt.zero.val none 0, .bool false]) ?_ rfl ⟨none, 0, by rw [hR9], by rw [hR9]; exact Own.nil _ _ _ _, by rw [hR9]; exact r2, r3⟩
        rw [results_cell_tmp rfl]
        have h9 := T.out.res Pkt.zero none 0
        clear c0 c1 c2 c3 c4 c5 c6 c7 c8 f0
        simp [asAddr, h9]
      · have hcm := HCM.out rfl
        have HCMM := Lib.hid hcm
        have hle9 := T9.out.rd.le
        have hcap9 := T9.out.rd.own.cap
        have hx1 := hcm.1
        have hx2 := hcm.2.1
        obtain ⟨M, hM⟩ : ∃ M, (xs.drop a).take (a6 - a) = M := ⟨_, rfl⟩
        have hMl : M.length = a6 - a := by rw [← hM]; simp; omega
        obtain ⟨A9, hA9⟩ : ∃ A9, (if c = a then A else A.map (·.add a)) = A9 := ⟨_, rfl⟩
        have hrd9 := ((T9.out.rd.own.rd.drop a c (by omega) (by omega)).take (a6 - a))
        rw [hA9, hM] at hrd9
        have hsl : ∀ W, (Instr.sliceAt 23 (.slice A xs.length c) (some (.int .i64 (a : Nat))) (some (.int .i64 (a6 : Nat))) none).run Try.prog W = .ok (.slice A9 (a6 - a) (c - a)) W := fun W => by
          rw [← hA9]
          rw [run_sliceAt_slice _ _ _ _ _ _ Try.underlying23, run_slice_lh (P := Try.prog) W 23 A xs.length c Try.underlying23 .i64 .i64 (a : Int) (a6 : Int) (by omega) (by omega) (by omega)]
          go_simp
        have hK1 : ∀ k, (convert 23 9 (.slice PA PL.length pc)).run Try.prog (v1.drewN k) = .ok (.string (strOfNums PL)) (v1.drewN k) := fun k => conv_rd pc rfl (HPO.out.rd.drewN k)
        have hK2 : ∀ k, (convert 23 9 (.slice A9 (a6 - a) (c - a))).run Try.prog (v1.drewN k) = .ok (.string (strOfNums M)) (v1.drewN k) := fun k => conv_rd (c - a) hMl (hrd9.drewN k)
        have hPL9 : pk.plainL = PL := by have h9 := HPL9.out; unfold Pkt.plainO at h9; rw [HS.out, if_pos rfl] at h9; exact h9
        have hcmp : ((strOfNums PL).toList == (strOfNums M).toList) = fl := by
          rw [str_cmp (by rw [← hPL9]; exact plainL_bytes HS.out HPB.out) (by rw [← hM]; exact fun x hx => T9.out.rd.bytes x (List.mem_of_mem_drop (List.mem_of_mem_take hx))), ← hM, ← hPL9]
          exact hcm.2.2
        clear hcm hle9 hcap9 hx1 hx2 hM hMl hA9 hrd9 hPL9 HCMM
        cases fl
        · have hR9 : R = (Pkt.zero, false, a6, false) := by rw [HT.out]; simp
          have KALL := True.intro
          go_wp2_with fail
          go_quiet (fail)
          rename Nat => k1
          have TD := Lib.hid (T9.out.drewN k1)
          clear T9 r0 r1 r2 KALL hsl hK1 hK2 hcmp
          have T := TD
          clear TD
          obtain ⟨v2, hv2⟩ : ∃ V, v1.drewN k1 = V := ⟨_, rfl⟩
          rw [hv2] at T ⊢
          clear hv2
          have f0 := T.out.zr.fr
          obtain ⟨c0, c1, c2, c3, c4, c5, c6, c7, c8⟩ := T.out.zr.cells
          go_wp2_with fail
          change bodyPost _ _ _ _ _ (v2.setCells z 0 (Pkt.zero.cs none 0))
          obtain ⟨r1, r2, r3⟩ := T.out.put (Pkt.zero.cs none 0)
          refine bodyPost_ret (v := .tuple #[Pkt.zero.val none 0, .bool false]) ?_ rfl ⟨none, 0, by rw [hR9], by rw [hR9]; exact Own.nil _ _ _ _, by rw [hR9]; exact r2, r3⟩
          rw [results_cell_tmp rfl]
          have h9 := T.out.res Pkt.zero none 0
          clear c0 c1 c2 c3 c4 c5 c6 c7 c8 f0
          simp [asAddr, h9]
        · have hR9 : R = (pk, true, a6, false) := by rw [HT.out, HS.out]; simp
          have KALL := True.intro
          go_wp2_with fail
          go_quiet (fail)
          rename Nat => k1
          have TD := Lib.hid (T9.out.drewN k1)
          clear T9 r0 r1 r2 KALL hsl hK1 hK2 hcmp
          have T := TD
          clear TD
          obtain ⟨v2, hv2⟩ : ∃ V, v1.drewN k1 = V := ⟨_, rfl⟩
          rw [hv2] at T ⊢
          clear hv2
          obtain ⟨c0, c1, c2, c3, c4, c5, c6, c7, c8⟩ := T.out.pv.cells
          have f0 := T.out.zr.fr
          obtain ⟨x0, x1, x2, x3, x4, x5, x6, x7, x8⟩ := T.out.zr.cells
          go_wp2_with fail
          change bodyPost _ _ _ _ _ (v2.setCells z 0 (pk.cs B d))
          obtain ⟨r1, r2, r3⟩ := T.out.put (pk.cs B d)
          refine bodyPost_ret (v := .tuple #[pk.val B d, .bool true]) ?_ rfl ⟨B, d, by rw [hR9], by rw [hR9]; exact r1, by rw [hR9]; exact r2, r3⟩
          rw [results_cell_tmp rfl]
          have h9 := T.out.res pk B d
          clear c0 c1 c2 c3 c4 c5 c6 c7 c8 x0 x1 x2 x3 x4 x5 x6 x7 x8 f0
          simp [asAddr, h9]
    · have hR9 : R = (Pkt.zero, false, a6, true) := by rw [HT.out]; simp
      have KALL := True.intro
      go_wp2_with fail
      go_quiet (fail)
      rename Nat => k1
      have TD := Lib.hid (T9.out.drewN k1)
      clear T9 r0 r1 r2 KALL
      have T := TD
      clear TD
      obtain ⟨v2, hv2⟩ : ∃ V, v1.drewN k1 = V := ⟨_, rfl⟩
      rw [hv2] at T ⊢
      clear hv2
      have f0 := T.out.zr.fr
      obtain ⟨c0, c1, c2, c3, c4, c5, c6, c7, c8⟩ := T.out.zr.cells
      go_wp2_with fail
      change bodyPost _ _ _ _ _ (v2.setCells z 0 (Pkt.zero.cs none 0))
      obtain ⟨r1, r2, r3⟩ := T.out.put (Pkt.zero.cs none 0)
      refine bodyPost_ret (v := .tuple #[Pkt.zero.val none 0, .bool false]) ?_ rfl ⟨none, 0, by rw [hR9], by rw [hR9]; exact Own.nil _ _ _ _, by rw [hR9]; exact r2, r3⟩
      rw [results_cell_tmp rfl]
      have h9 := T.out.res Pkt.zero none 0
      clear c0 c1 c2 c3 c4 c5 c6 c7 c8 f0
      simp [asAddr, h9]
  by_cases h4 : k = 4
  · subst h4
    obtain ⟨o, a4, b4, e4⟩ : ∃ k a1' b1', rdN xs (a3, b3) = (k, a1', b1') := ⟨_, _, _, rfl⟩
    have ho := rdN_bd (xs := xs) (s := (a3, b3)) hnu.2.2
    rw [e4] at ho
    simp only at ho
    obtain ⟨se, a5, b5, e5⟩ : ∃ k a1' b1', rdN xs (a4, b4) = (k, a1', b1') := ⟨_, _, _, rfl⟩
    have hse := rdN_bd (xs := xs) (s := (a4, b4)) ho.2.2
    rw [e5] at hse
    simp only at hse
    obtain ⟨li, a6, b6, e6⟩ : ∃ k a1' b1', rdN xs (a5, b5) = (k, a1', b1') := ⟨_, _, _, rfl⟩
    have hli := rdN_bd (xs := xs) (s := (a5, b5)) hse.2.2
    rw [e6] at hli
    simp only at hli
    have hrp : readP xs (a, bad) = (⟨4, pa, nu, o, 0, [], false, se, li⟩, true, a6, b6) := by simp [readP, e1, e2, e3, e4, e5, e6]
    obtain ⟨pk, hpk⟩ : ∃ pk : Pkt, ⟨4, pa, nu, o, 0, [], false, se, li⟩ = pk := ⟨_, rfl⟩
    rw [hpk] at hrp
    have HPK := Lib.hid hpk
    have HT := Lib.hid (show R = if (true && !b6 && pk.ok) = true then (pk, true, a6, b6) else (Pkt.zero, false, a6, b6) by rw [← hR]; unfold takeP; rw [hrp])
    have HCM := Lib.hid (show b6 = false → a ≤ a6 ∧ a6 ≤ xs.length ∧ decide (pk.plainL = (xs.drop a).take (a6 - a)) = true from fun h9 => readP_cmp hr.bytes hr.le (by rw [hrp, h9]))
    have HAT := Lib.hid (fun (W : World) (B : Option Addr) (d : Nat) (h : Own .u8 5 W w.heap.size (.slice B pk.da.length d) pk.da) => pktAt_of (p := pk) h (by subst hpk; simp) (by subst hpk; simp) (by subst hpk; simp) (by subst hpk; simp; omega) (by subst hpk; simp; omega) (by subst hpk; simp; omega) (by subst hpk; simp) (by subst hpk; simp; omega) (by subst hpk; simp; omega))
    clear hrp hR hpk
    have HR := Lib.hid hr
    have hpl := HR.out.lt
    have HPL := Lib.hid hpl
    clear hr hpl
    have E1 := Lib.hid e1
    have E2 := Lib.hid e2
    have E3 := Lib.hid e3
    have E4 := Lib.hid e4
    have E5 := Lib.hid e5
    have E6 := Lib.hid e6
    clear e1 e2 e3 e4 e5 e6
    go_enter Try.func77, Try.ntmps77
    have cz : (w.alloc (.cells #[.int .i64 0, .int .i64 0, .int .i64 0, .int .i64 0, .int .i64 0, .slice none 0 0, .bool false, .int .i64 0, .int .i64 0] 58)).cell? ⟨p, 0 + 1, none⟩ = some (.int .i64 (a : Nat)) := (HR.out.alloc _).c1
    go_wp2_with fail
    clear cz
    refine (refO_call (HR.out.alloc _) E1.out).mono ?_
    rintro e w1 ⟨rfl, hr1, hg1⟩
    have T := Lib.hid (TR.begin 4 HR.out hr1 hg1)
    clear hr1 hg1
    unfold Pkt.cs at T
    simp only [List.length_nil] at T
    go_wp2_with fail
    obtain ⟨w2, hw2⟩ : ∃ W, w1.alloc (.cells #[.int .i64 4, .int .i64 0, .int .i64 0, .int .i64 0, .int .i64 0, .slice none 0 0, .bool false, .int .i64 0, .int .i64 0] 58) = W := ⟨_, rfl⟩
    rw [hw2] at T ⊢
    obtain ⟨q, hq⟩ : ∃ q, w1.heap.size = q := ⟨_, rfl⟩
    obtain ⟨z, hz⟩ : ∃ z, w.heap.size = z := ⟨_, rfl⟩
    rw [hq, hz] at T ⊢
    clear hq hw2
    refine (refN_call T.out.rd E2.out).mono ?_
    rintro e w3 ⟨rfl, hr3, hg3⟩
    have T9 := Lib.hid (T.out.call hr3 hg3)
    clear hr3 hg3 T
    have f9 := T9.out.pv.fr 1
    have c9 := T9.out.pv.cells.c1
    have c0 := T9.out.pv.cells.c0
    have T := Lib.hid (T9.out.store (T9.out.pv.pa pa) rfl)
    clear T9
    go_wp2_with fail
    obtain ⟨w4, hw9⟩ : ∃ V, w3.setCell ⟨q, 1, none⟩ (.int .i64 pa) = V := ⟨_, rfl⟩
    rw [hw9] at T ⊢
    clear hw9 f9 c9 c0
    refine (refN_call T.out.rd E3.out).mono ?_
    rintro e w5 ⟨rfl, hr3, hg3⟩
    have T9 := Lib.hid (T.out.call hr3 hg3)
    clear hr3 hg3 T
    have f9 := T9.out.pv.fr 2
    have c9 := T9.out.pv.cells.c2
    have c0 := T9.out.pv.cells.c0
    have T := Lib.hid (T9.out.store (T9.out.pv.nu nu) rfl)
    clear T9
    go_wp2_with fail
    obtain ⟨w6, hw9⟩ : ∃ V, w5.setCell ⟨q, 2, none⟩ (.int .i64 nu) = V := ⟨_, rfl⟩
    rw [hw9] at T ⊢
    clear hw9 f9 c9 c0
    refine (refN_call T.out.rd E4.out).mono ?_
    rintro e w7 ⟨rfl, hr3, hg3⟩
    have T9 := Lib.hid (T.out.call hr3 hg3)
    clear hr3 hg3 T
    have f9 := T9.out.pv.fr 3
    have c9 := T9.out.pv.cells.c3
    have c0 := T9.out.pv.cells.c0
    have T := Lib.hid (T9.out.store (T9.out.pv.ofn o) rfl)
    clear T9
    go_wp2_with fail
    obtain ⟨w8, hw9⟩ : ∃ V, w7.setCell ⟨q, 3, none⟩ (.int .i64 o) = V := ⟨_, rfl⟩
    rw [hw9] at T ⊢
    clear hw9 f9 c9 c0
    refine (refN_call T.out.rd E5.out).mono ?_
    rintro e w9 ⟨rfl, hr3, hg3⟩
    have T9 := Lib.hid (T.out.call hr3 hg3)
    clear hr3 hg3 T
    have f9 := T9.out.pv.fr 7
    have c9 := T9.out.pv.cells.c7
    have c0 := T9.out.pv.cells.c0
    have T := Lib.hid (T9.out.store (T9.out.pv.se se) rfl)
    clear T9
    go_wp2_with fail
    obtain ⟨w10, hw9⟩ : ∃ V, w9.setCell ⟨q, 7, none⟩ (.int .i64 se) = V := ⟨_, rfl⟩
    rw [hw9] at T ⊢
    clear hw9 f9 c9 c0
    refine (refN_call T.out.rd E6.out).mono ?_
    rintro e w11 ⟨rfl, hr3, hg3⟩
    have T9 := Lib.hid (T.out.call hr3 hg3)
    clear hr3 hg3 T
    have f9 := T9.out.pv.fr 8
    have c9 := T9.out.pv.cells.c8
    have c0 := T9.out.pv.cells.c0
    have T := Lib.hid (T9.out.store (T9.out.pv.li li) rfl)
    clear T9
    go_upto_region 16 with (fail)
    obtain ⟨w12, hw9⟩ : ∃ V, w11.setCell ⟨q, 8, none⟩ (.int .i64 li) = V := ⟨_, rfl⟩
    rw [hw9] at T ⊢
    clear hw9 f9 c9 c0
    try rw [HPK.out] at T
    obtain ⟨c0, c1, c2, c3, c4, c5, c6, c7, c8⟩ := T.out.pv.cells
    have hat9 := HAT.out _ _ _ T.out.own
    have hpc := refPlain_any pk none 0 w12 hat9
    obtain ⟨PL, hPL⟩ : ∃ PL, pk.plainO = PL := ⟨_, rfl⟩
    obtain ⟨s, hs⟩ : ∃ s, pk.ok = s := ⟨_, rfl⟩
    rw [hPL, hs] at hpc
    unfold Pkt.val at hpc
    have HPC := Lib.hid hpc
    have HPL9 := Lib.hid hPL
    have HS := Lib.hid hs
    have HPB := Lib.hid hat9.byt
    clear hpc hPL hs hat9
    go_wp2_with fail
    refine HPC.out.mono ?_
    rintro e v1 ⟨PA, pc, rfl, hpo, hb⟩
    have T9 := Lib.hid (T.out.below hb)
    have HPO := Lib.hid hpo
    clear hb hpo HPC T c0 c1 c2 c3 c4 c5 c6 c7 c8
    have r0 := T9.out.rd.c0
    have r1 := T9.out.rd.c1
    have r2 := T9.out.rd.c2
    cases b6
    · cases s
      · have hR9 : R = (Pkt.zero, false, a6, false) := by rw [HT.out, HS.out]; simp
        have KALL := True.intro
        go_wp2_with fail
        go_quiet (fail)
        rename Nat => k1
        have TD := Lib.hid (T9.out.drewN k1)
        clear T9 r0 r1 r2 KALL
        have T := TD
        clear TD
        obtain ⟨v2, hv2⟩ : ∃ V, v1.drewN k1 = V := ⟨_, rfl⟩
        rw [hv2] at T ⊢
        clear hv2
        have f0 := T.out.zr.fr
        obtain ⟨c0, c1, c2, c3, c4, c5, c6, c7, c8⟩ := T.out.zr.cells
        go_wp2_with fail
        change bodyPost _ _ _ _ _ (v2.setCells z 0 (Pkt.zero.cs none 0))
        obtain ⟨r1, r2, r3⟩ := T.out.put (Pkt.zero.cs none 0)
        refine bodyPost_ret (v := .tuple #[Pkt.zero.val none 0, .bool false]) ?_ rfl ⟨none, 0, by rw [hR9], by rw [hR9]; exact Own.nil _ _ _ _, by rw [hR9]; exact r2, r3⟩
        rw [results_cell_tmp rfl]
        have h9 := T.out.res Pkt.zero none 0
        clear c0 c1 c2 c3 c4 c5 c6 c7 c8 f0
        simp [asAddr, h9]
      · have hcm := HCM.out rfl
        have HCMM := Lib.hid hcm
        have hle9 := T9.out.rd.le
        have hcap9 := T9.out.rd.own.cap
        have hx1 := hcm.1
        have hx2 := hcm.2.1
        obtain ⟨M, hM⟩ : ∃ M, (xs.drop a).take (a6 - a) = M := ⟨_, rfl⟩
        have hMl : M.length = a6 - a := by rw [← hM]; simp; omega
        obtain ⟨A9, hA9⟩ : ∃ A9, (if c = a then A else A.map (·.add a)) = A9 := ⟨_, rfl⟩
        have hrd9 := ((T9.out.rd.own.rd.drop a c (by omega) (by omega)).take (a6 - a))
        rw [hA9, hM] at hrd9
        have hsl : ∀ W, (Instr.sliceAt 23 (.slice A xs.length c) (some (.int .i64 (a : Nat))) (some (.int .i64 (a6 : Nat))) none).run Try.prog W = .ok (.slice A9 (a6 - a) (c - a)) W := fun W => by
          rw [← hA9]
          rw [run_sliceAt_slice _ _ _ _ _ _ Try.underlying23, run_slice_lh (P := Try.prog) W 23 A xs.length c Try.underlying23 .i64 .i64 (a : Int) (a6 : Int) (by omega) (by omega) (by omega)]
          go_simp
        have hK1 : ∀ k, (convert 23 9 (.slice PA PL.length pc)).run Try.prog (v1.drewN k) = .ok (.string (strOfNums PL)) (v1.drewN k) := fun k => conv_rd pc rfl (HPO.out.rd.drewN k)
        have hK2 : ∀ k, (convert 23 9 (.slice A9 (a6 - a) (c - a))).run Try.prog (v1.drewN k) = .ok (.string (strOfNums M)) (v1.drewN k) := fun k => conv_rd (c - a) hMl (hrd9.drewN k)
        have hPL9 : pk.plainL = PL := by have h9 := HPL9.out; unfold Pkt.plainO at h9; rw [HS.out, if_pos rfl] at h9; exact h9
        have hcmp : ((strOfNums PL).toList == (strOfNums M).toList) = true := by
          rw [str_cmp (by rw [← hPL9]; exact plainL_bytes HS.out HPB.out) (by rw [← hM]; exact fun x hx => T9.out.rd.bytes x (List.mem_of_mem_drop (List.mem_of_mem_take hx))), ← hM, ← hPL9]
          exact hcm.2.2
        clear hcm hle9 hcap9 hx1 hx2 hM hMl hA9 hrd9 hPL9 HCMM
        have hR9 : R = (pk, true, a6, false) := by rw [HT.out, HS.out]; simp
        have KALL := True.intro
        go_wp2_with fail
        go_quiet (fail)
        rename Nat => k1
        have TD := Lib.hid (T9.out.drewN k1)
        clear T9 r0 r1 r2 KALL hsl hK1 hK2 hcmp
        have T := TD
        clear TD
        obtain ⟨v2, hv2⟩ : ∃ V, v1.drewN k1 = V := ⟨_, rfl⟩
        rw [hv2] at T ⊢
        clear hv2
        obtain ⟨c0, c1, c2, c3, c4, c5, c6, c7, c8⟩ := T.out.pv.cells
        have f0 := T.out.zr.fr
        obtain ⟨x0, x1, x2, x3, x4, x5, x6, x7, x8⟩ := T.out.zr.cells
        go_wp2_with fail
        change bodyPost _ _ _ _ _ (v2.setCells z 0 (pk.cs none 0))
        obtain ⟨r1, r2, r3⟩ := T.out.put (pk.cs none 0)
        refine bodyPost_ret (v := .tuple #[pk.val none 0, .bool true]) ?_ rfl ⟨none, 0, by rw [hR9], by rw [hR9]; exact r1, by rw [hR9]; exact r2, r3⟩
        rw [results_cell_tmp rfl]
        have h9 := T.out.res pk none 0
        clear c0 c1 c2 c3 c4 c5 c6 c7 c8 x0 x1 x2 x3 x4 x5 x6 x7 x8 f0
        simp [asAddr, h9]
    · have hR9 : R = (Pkt.zero, false, a6, true) := by rw [HT.out]; simp
      have KALL := True.intro
      go_wp2_with fail
      go_quiet (fail)
      rename Nat => k1
      have TD := Lib.hid (T9.out.drewN k1)
      clear T9 r0 r1 r2 KALL
      have T := TD
      clear TD
      obtain ⟨v2, hv2⟩ : ∃ V, v1.drewN k1 = V := ⟨_, rfl⟩
      rw [hv2] at T ⊢
      clear hv2
      have f0 := T.out.zr.fr
      obtain ⟨c0, c1, c2, c3, c4, c5, c6, c7, c8⟩ := T.out.zr.cells
      go_wp2_with fail
      change bodyPost _ _ _ _ _ (v2.setCells z 0 (Pkt.zero.cs none 0))
      obtain ⟨r1, r2, r3⟩ := T.out.put (Pkt.zero.cs none 0)
      refine bodyPost_ret (v := .tuple #[Pkt.zero.val none 0, .bool false]) ?_ rfl ⟨none, 0, by rw [hR9], by rw [hR9]; exact Own.nil _ _ _ _, by rw [hR9]; exact r2, r3⟩
      rw [results_cell_tmp rfl]
      have h9 := T.out.res Pkt.zero none 0
      clear c0 c1 c2 c3 c4 c5 c6 c7 c8 f0
      simp [asAddr, h9]
  have hrp : readP xs (a, bad) = (⟨k, pa, nu, 0, 0, [], false, 0, 0⟩, true, a3, b3) := by simp [readP, e1, e2, e3, h2, h3, h4]
  obtain ⟨pk, hpk⟩ : ∃ pk : Pkt, ⟨k, pa, nu, 0, 0, [], false, 0, 0⟩ = pk := ⟨_, rfl⟩
  rw [hpk] at hrp
  have HPK := Lib.hid hpk
  have HT := Lib.hid (show R = if (true && !b3 && pk.ok) = true then (pk, true, a3, b3) else (Pkt.zero, false, a3, b3) by rw [← hR]; unfold takeP; rw [hrp])
  have HCM := Lib.hid (show b3 = false → a ≤ a3 ∧ a3 ≤ xs.length ∧ decide (pk.plainL = (xs.drop a).take (a3 - a)) = true from fun h9 => readP_cmp hr.bytes hr.le (by rw [hrp, h9]))
  have HAT := Lib.hid (fun (W : World) (B : Option Addr) (d : Nat) (h : Own .u8 5 W w.heap.size (.slice B pk.da.length d) pk.da) => pktAt_of (p := pk) h (by subst hpk; simp) (by subst hpk; simp) (by subst hpk; simp; omega) (by subst hpk; simp; omega) (by subst hpk; simp; omega) (by subst hpk; simp) (by subst hpk; simp) (by subst hpk; simp) (by subst hpk; simp))
  clear hrp hR hpk
  have q2 : (k == 2) = false := by simp [h2]
  have q3 : (k == 3) = false := by simp [h3]
  have q4 : (k == 4) = false := by simp [h4]
  have HR := Lib.hid hr
  have hpl := HR.out.lt
  have HPL := Lib.hid hpl
  clear hr hpl
  have E1 := Lib.hid e1
  have E2 := Lib.hid e2
  have E3 := Lib.hid e3
  clear e1 e2 e3
  go_enter Try.func77, Try.ntmps77
  have cz : (w.alloc (.cells #[.int .i64 0, .int .i64 0, .int .i64 0, .int .i64 0, .int .i64 0, .slice none 0 0, .bool false, .int .i64 0, .int .i64 0] 58)).cell? ⟨p, 0 + 1, none⟩ = some (.int .i64 (a : Nat)) := (HR.out.alloc _).c1
  go_wp2_with fail
  clear cz
  refine (refO_call (HR.out.alloc _) E1.out).mono ?_
  rintro e w1 ⟨rfl, hr1, hg1⟩
  have T := Lib.hid (TR.begin k HR.out hr1 hg1)
  clear hr1 hg1
  unfold Pkt.cs at T
  simp only [List.length_nil] at T
  go_wp2_with fail
  obtain ⟨w2, hw2⟩ : ∃ W, w1.alloc (.cells #[.int .i64 k, .int .i64 0, .int .i64 0, .int .i64 0, .int .i64 0, .slice none 0 0, .bool false, .int .i64 0, .int .i64 0] 58) = W := ⟨_, rfl⟩
  rw [hw2] at T ⊢
  obtain ⟨q, hq⟩ : ∃ q, w1.heap.size = q := ⟨_, rfl⟩
  obtain ⟨z, hz⟩ : ∃ z, w.heap.size = z := ⟨_, rfl⟩
  rw [hq, hz] at T ⊢
  clear hq hw2
  refine (refN_call T.out.rd E2.out).mono ?_
  rintro e w3 ⟨rfl, hr3, hg3⟩
  have T9 := Lib.hid (T.out.call hr3 hg3)
  clear hr3 hg3 T
  have f9 := T9.out.pv.fr 1
  have c9 := T9.out.pv.cells.c1
  have c0 := T9.out.pv.cells.c0
  have T := Lib.hid (T9.out.store (T9.out.pv.pa pa) rfl)
  clear T9
  go_wp2_with fail
  obtain ⟨w4, hw9⟩ : ∃ V, w3.setCell ⟨q, 1, none⟩ (.int .i64 pa) = V := ⟨_, rfl⟩
  rw [hw9] at T ⊢
  clear hw9 f9 c9 c0
  refine (refN_call T.out.rd E3.out).mono ?_
  rintro e w5 ⟨rfl, hr3, hg3⟩
  have T9 := Lib.hid (T.out.call hr3 hg3)
  clear hr3 hg3 T
  have f9 := T9.out.pv.fr 2
  have c9 := T9.out.pv.cells.c2
  have c0 := T9.out.pv.cells.c0
  have T := Lib.hid (T9.out.store (T9.out.pv.nu nu) rfl)
  clear T9
  go_upto_region 16 with (fail)
  obtain ⟨w6, hw9⟩ : ∃ V, w5.setCell ⟨q, 2, none⟩ (.int .i64 nu) = V := ⟨_, rfl⟩
  rw [hw9] at T ⊢
  clear hw9 f9 c9 c0
  try rw [HPK.out] at T
  obtain ⟨c0, c1, c2, c3, c4, c5, c6, c7, c8⟩ := T.out.pv.cells
  have hat9 := HAT.out _ _ _ T.out.own
  have hpc := refPlain_any pk none 0 w6 hat9
  obtain ⟨PL, hPL⟩ : ∃ PL, pk.plainO = PL := ⟨_, rfl⟩
  obtain ⟨s, hs⟩ : ∃ s, pk.ok = s := ⟨_, rfl⟩
  rw [hPL, hs] at hpc
  unfold Pkt.val at hpc
  have HPC := Lib.hid hpc
  have HPL9 := Lib.hid hPL
  have HS := Lib.hid hs
  have HPB := Lib.hid hat9.byt
  clear hpc hPL hs hat9
  go_wp2_with fail
  refine HPC.out.mono ?_
  rintro e v1 ⟨PA, pc, rfl, hpo, hb⟩
  have T9 := Lib.hid (T.out.below hb)
  have HPO := Lib.hid hpo
  clear hb hpo HPC T c0 c1 c2 c3 c4 c5 c6 c7 c8
  have r0 := T9.out.rd.c0
  have r1 := T9.out.rd.c1
  have r2 := T9.out.rd.c2
  cases b3
  · cases s
    · have hR9 : R = (Pkt.zero, false, a3, false) := by rw [HT.out, HS.out]; simp
      have KALL := True.intro
      go_wp2_with fail
      go_quiet (fail)
      rename Nat => k1
      have TD := Lib.hid (T9.out.drewN k1)
      clear T9 r0 r1 r2 KALL
      have T := TD
      clear TD
      obtain ⟨v2, hv2⟩ : ∃ V, v1.drewN k1 = V := ⟨_, rfl⟩
      rw [hv2] at T ⊢
      clear hv2
      have f0 := T.out.zr.fr
      obtain ⟨c0, c1, c2, c3, c4, c5, c6, c7, c8⟩ := T.out.zr.cells
      go_wp2_with fail
      change bodyPost _ _ _ _ _ (v2.setCells z 0 (Pkt.zero.cs none 0))
      obtain ⟨r1, r2, r3⟩ := T.out.put (Pkt.zero.cs none 0)
      refine bodyPost_ret (v := .tuple #[Pkt.zero.val none 0, .bool false]) ?_ rfl ⟨none, 0, by rw [hR9], by rw [hR9]; exact Own.nil _ _ _ _, by rw [hR9]; exact r2, r3⟩
      rw [results_cell_tmp rfl]
      have h9 := T.out.res Pkt.zero none 0
      clear c0 c1 c2 c3 c4 c5 c6 c7 c8 f0
      simp [asAddr, h9]
    · have hcm := HCM.out rfl
      have HCMM := Lib.hid hcm
      have hle9 := T9.out.rd.le
      have hcap9 := T9.out.rd.own.cap
      have hx1 := hcm.1
      have hx2 := hcm.2.1
      obtain ⟨M, hM⟩ : ∃ M, (xs.drop a).take (a3 - a) = M := ⟨_, rfl⟩
      have hMl : M.length = a3 - a := by rw [← hM]; simp; omega
      obtain ⟨A9, hA9⟩ : ∃ A9, (if c = a then A else A.map (·.add a)) = A9 := ⟨_, rfl⟩
      have hrd9 := ((T9.out.rd.own.rd.drop a c (by omega) (by omega)).take (a3 - a))
      rw [hA9, hM] at hrd9
      have hsl : ∀ W, (Instr.sliceAt 23 (.slice A xs.length c) (some (.int .i64 (a : Nat))) (some (.int .i64 (a3 : Nat))) none).run Try.prog W = .ok (.slice A9 (a3 - a) (c - a)) W := fun W => by
        rw [← hA9]
        rw [run_sliceAt_slice _ _ _ _ _ _ Try.underlying23, run_slice_lh (P := Try.prog) W 23 A xs.length c Try.underlying23 .i64 .i64 (a : Int) (a3 : Int) (by omega) (by omega) (by omega)]
        go_simp
      have hK1 : ∀ k, (convert 23 9 (.slice PA PL.length pc)).run Try.prog (v1.drewN k) = .ok (.string (strOfNums PL)) (v1.drewN k) := fun k => conv_rd pc rfl (HPO.out.rd.drewN k)
      have hK2 : ∀ k, (convert 23 9 (.slice A9 (a3 - a) (c - a))).run Try.prog (v1.drewN k) = .ok (.string (strOfNums M)) (v1.drewN k) := fun k => conv_rd (c - a) hMl (hrd9.drewN k)
      have hPL9 : pk.plainL = PL := by have h9 := HPL9.out; unfold Pkt.plainO at h9; rw [HS.out, if_pos rfl] at h9; exact h9
      have hcmp : ((strOfNums PL).toList == (strOfNums M).toList) = true := by
        rw [str_cmp (by rw [← hPL9]; exact plainL_bytes HS.out HPB.out) (by rw [← hM]; exact fun x hx => T9.out.rd.bytes x (List.mem_of_mem_drop (List.mem_of_mem_take hx))), ← hM, ← hPL9]
        exact hcm.2.2
      clear hcm hle9 hcap9 hx1 hx2 hM hMl hA9 hrd9 hPL9 HCMM
      have hR9 : R = (pk, true, a3, false) := by rw [HT.out, HS.out]; simp
      have KALL := True.intro
      go_wp2_with fail
      go_quiet (fail)
      rename Nat => k1
      have TD := Lib.hid (T9.out.drewN k1)
      clear T9 r0 r1 r2 KALL hsl hK1 hK2 hcmp
      have T := TD
      clear TD
      obtain ⟨v2, hv2⟩ : ∃ V, v1.drewN k1 = V := ⟨_, rfl⟩
      rw [hv2] at T ⊢
      clear hv2
      obtain ⟨c0, c1, c2, c3, c4, c5, c6, c7, c8⟩ := T.out.pv.cells
      have f0 := T.out.zr.fr
      obtain ⟨x0, x1, x2, x3, x4, x5, x6, x7, x8⟩ := T.out.zr.cells
      go_wp2_with fail
      change bodyPost _ _ _ _ _ (v2.setCells z 0 (pk.cs none 0))
      obtain ⟨r1, r2, r3⟩ := T.out.put (pk.cs none 0)
      refine bodyPost_ret (v := .tuple #[pk.val none 0, .bool true]) ?_ rfl ⟨none, 0, by rw [hR9], by rw [hR9]; exact r1, by rw [hR9]; exact r2, r3⟩
      rw [results_cell_tmp rfl]
      have h9 := T.out.res pk none 0
      clear c0 c1 c2 c3 c4 c5 c6 c7 c8 x0 x1 x2 x3 x4 x5 x6 x7 x8 f0
      simp [asAddr, h9]
  · have hR9 : R = (Pkt.zero, false, a3, true) := by rw [HT.out]; simp
    have KALL := True.intro
    go_wp2_with fail
    go_quiet (fail)
    rename Nat => k1
    have TD := Lib.hid (T9.out.drewN k1)
    clear T9 r0 r1 r2 KALL
    have T := TD
    clear TD
    obtain ⟨v2, hv2⟩ : ∃ V, v1.drewN k1 = V := ⟨_, rfl⟩
    rw [hv2] at T ⊢
    clear hv2
    have f0 := T.out.zr.fr
    obtain ⟨c0, c1, c2, c3, c4, c5, c6, c7, c8⟩ := T.out.zr.cells
    go_wp2_with fail
    change bodyPost _ _ _ _ _ (v2.setCells z 0 (Pkt.zero.cs none 0))
    obtain ⟨r1, r2, r3⟩ := T.out.put (Pkt.zero.cs none 0)
    refine bodyPost_ret (v := .tuple #[Pkt.zero.val none 0, .bool false]) ?_ rfl ⟨none, 0, by rw [hR9], by rw [hR9]; exact Own.nil _ _ _ _, by rw [hR9]; exact r2, r3⟩
    rw [results_cell_tmp rfl]
    have h9 := T.out.res Pkt.zero none 0
    clear c0 c1 c2 c3 c4 c5 c6 c7 c8 f0
    simp [asAddr, h9]
end Go.Proofs.Ytbjneoeiognahaa
