/-
  The walk of VintBack.
-/
import Derived.Test.YtlmndmcjkkikpaaWakes
import Derived.Test.YtlmndmcjkkikpaaVintN
import Derived.Test.YtlmndmcjkkikpaaVintTake
import Derived.Test.YtlmndmcjkkikpaaCopy
import Derived.Test.YtlmndmcjkkikpaaRowsMath
import Derived.Test.YtlmndmcjkkikpaaRefPut
import Derived.Test.YtlmndmcjkkikpaaMapLit
import Derived.Deep.RegionHeld3
import Derived.Deep.DrawnRows
namespace Go.Proofs.Ytlmndmcjkkikpaa
open Go.RowKit
attribute [local go_sem ↓] Go.wp_at_zero Go.wp_at_succ

set_option maxRecDepth 100000 in
set_option maxHeartbeats 2000000 in
theorem vintBack_1 (a0 a1 c cut : Int) (w : World) (hcb : 0 ≤ c ∧ c < 256) (n : Int) (h1 : 0 ≤ n) (h2 : n < 64) (hN : Calls Try.prog 9 #[.int .i64 a0, .int .i64 a1] w (IntIs n w)) :
    Calls Try.prog 6 #[.int .i64 a0, .int .i64 a1, .int .u8 c, .int .i64 cut] w fun e w' => e = .returned (.bool true) ∧ Below w.heap.size w w' := by
  have hmk4 : ∀ w, (Instr.makeSlice 24 (.int .i64 4) (.int .i64 4)).run Try.prog w = .ok (.slice (some ⟨w.heap.size, 0, none⟩) 4 4) (w.alloc (.cells #[.int .u8 0, .int .u8 0, .int .u8 0, .int .u8 0] 5)) := fun _ => by kernel_rfl
  have hmk8 : ∀ w, (Instr.makeSlice 24 (.int .i64 8) (.int .i64 8)).run Try.prog w = .ok (.slice (some ⟨w.heap.size, 0, none⟩) 8 8) (w.alloc (.cells #[.int .u8 0, .int .u8 0, .int .u8 0, .int .u8 0, .int .u8 0, .int .u8 0, .int .u8 0, .int .u8 0] 5)) := fun _ => by kernel_rfl
  have hm0 := mk_map
  have hm1 : ∀ w : World, (Instr.mapUpdate 37 (.map (some w.heap.size)) (.int .i64 4) (.int .i64 2)).run Try.prog ((w.alloc M0).drew) = .ok () ((w.alloc M1).drew) := fun w => ins4 w.drew
  have hm2 : ∀ w : World, (Instr.mapUpdate 37 (.map (some w.heap.size)) (.int .i64 8) (.int .i64 3)).run Try.prog ((w.alloc M1).drew) = .ok () ((w.alloc M2).drew) := fun w => ins8 w.drew
  have hm3 : ∀ w : World, (Instr.lookup 37 (.map (some w.heap.size)) (.int .i64 4) false).run Try.prog ((w.alloc M2).drew) = .ok (.int .i64 2) ((w.alloc M2).drew) := fun w => look4 w.drew
  have hm4 : ∀ w : World, (Instr.lookup 37 (.map (some w.heap.size)) (.int .i64 8) false).run Try.prog ((w.alloc M2).drew) = .ok (.int .i64 3) ((w.alloc M2).drew) := fun w => look8 w.drew
  have hn1 : ∀ w : World, (Instr.mapUpdate 37 (.map (some w.heap.size)) (.int .i64 8) (.int .i64 3)).run Try.prog ((w.alloc M0).drew) = .ok () ((w.alloc M3).drew) := fun w => ins8' w.drew
  have hn2 : ∀ w : World, (Instr.mapUpdate 37 (.map (some w.heap.size)) (.int .i64 4) (.int .i64 2)).run Try.prog ((w.alloc M3).drew) = .ok () ((w.alloc M4).drew) := fun w => ins4' w.drew
  have hn3 : ∀ w : World, (Instr.lookup 37 (.map (some w.heap.size)) (.int .i64 4) false).run Try.prog ((w.alloc M4).drew) = .ok (.int .i64 2) ((w.alloc M4).drew) := fun w => look4' w.drew
  have hn4 : ∀ w : World, (Instr.lookup 37 (.map (some w.heap.size)) (.int .i64 8) false).run Try.prog ((w.alloc M4).drew) = .ok (.int .i64 3) ((w.alloc M4).drew) := fun w => look8' w.drew
  have ho4 : bits .or .u8 0 128 = 128 := by decide
  have ho8 : bits .or .u8 0 192 = 192 := by decide
  have HN := Lib.hid hN
  clear hN
  go_enter Try.func6, Try.ntmps6
  go_wp2_with fail
  refine (HN.out).mono ?_
  rintro e w1 ⟨rfl, hb1⟩
  clear HN
  have hs := szV_1 h1 h2
  have hls : (putL n).length = 1 := by rw [putL_1 h1 h2]; rfl
  have HLS := Lib.hid hls
  clear hls
  go_wp2_with fail
  refine (put_own n w1).mono ?_
  rintro e w2 ⟨Pp, cp, rfl, hp, hb2⟩
  rw [HLS.out] at hp ⊢
  have hcp := hp.cap
  have hbb : Below w.heap.size w w2 := hb1.trans (hb2.mono hb1.size)
  clear hb1 hb2
  go_wp2_with (go_at_call 12; refine (size_any _ _).mono ?_; rintro e w' ⟨rfl, rfl⟩)
  refine (copy_any Pp 1 cp (putL n) w2 HLS.out hp.rd (by omega)).mono ?_
  rintro e w3 ⟨C, cc, rfl, hc, hb3⟩
  rw [← HLS.out] at hc
  go_wp2_with (at_builtin; refine wpList_app _ .u8 rfl (.tmp 73) (.tmp 75) 24 rfl 5 (.int .u8 0) 1 Try.underlying24 info_byte rfl w2.heap.size (.slice C 1 cc) (putL n) rfl ((show Own .u8 5 w3 w2.heap.size (.slice C 1 cc) (putL n) from by rw [HLS.out] at hc; exact hc).alloc _) _ _ _ rfl [c] rfl (rd_one _ _ _ _) (by rw [HLS.out]; simp [maxLen]) (by rw [HLS.out]; simp) (by have := hb3.size; simp only [World.size_alloc]; omega) ?_; intro D dd w4 hd hg4)
  rw [HLS.out] at hd hc ⊢
  have hb4 : Below w2.heap.size w2 w4 := (hb3.alloc hb3.size _).grown hg4 (by have := hb3.size; simp only [World.size_alloc]; omega) (fun g hg => (hc.lt g hg).1)
  have hpr : Rd .u8 w4 Pp (putL n) := hp.rd.later hb4
  have hbb4 := hbb.trans (hb4.mono hbb.size)
  have HTV := Lib.hid (takeV_putL (x := n) (by omega) (by omega) [c])
  clear hg4 hb3 hb4 hbb hc hp
  refine (take_any D (1 + 1) dd (putL n ++ [c]) w4 (by rw [List.length_append, HLS.out]; rfl) hd.cap hd.rd (fun y hy => by
    rcases List.mem_append.1 hy with hy | hy
    · exact putL_bytes n y hy
    · rw [List.mem_singleton.1 hy]; exact hcb)).mono ?_
  rw [HTV.out, HLS.out]
  rintro e w' ⟨rfl, rfl⟩
  clear hd
  go_wp2_with fail
  refine (within_any cut 1 w4 (by omega) (by omega)).mono ?_
  rintro e w' ⟨rfl, rfl⟩
  obtain ⟨j, hj⟩ : ∃ j : Nat, cut % 1 = (j : Int) := ⟨(cut % 1).toNat, by omega⟩
  have hj1 : (j : Int) < 1 := by omega
  have hj2 : (0 : Int) ≤ (j : Int) := by omega
  have hj3 : (j : Int) ≤ (cp : Int) := by omega
  rw [hj]
  have HTC := Lib.hid (takeV_cut (x := n) (by omega) (by omega) (j := j) (by rw [HLS.out]; omega))
  clear hj
  go_wp2_with fail
  refine (take_any Pp j cp ((putL n).take j) w4 (by rw [List.length_take, HLS.out]; omega) (by omega) (hpr.take j) (fun y hy => putL_bytes n y (List.mem_of_mem_take hy))).mono ?_
  rw [HTC.out]
  rintro e w' ⟨rfl, rfl⟩
  clear hj1 hj2 hj3
  go_wp2_with fail
  refine wp_loop_rounds 3 ?_
  obtain ⟨W0, hW0⟩ : ∃ W, w4.alloc (.cells #[.int .i64 4, .int .i64 8] 3) = W := ⟨_, rfl⟩
  obtain ⟨q, hqq⟩ : ∃ q, w4.heap.size = q := ⟨_, rfl⟩
  have hb_W0 : Below w.heap.size w W0 := by rw [← hW0]; exact hbb4.alloc hbb4.size _
  have hq_W0 : q < W0.heap.size := by rw [← hW0, World.size_alloc]; omega
  have hc0 : W0.cell? ⟨q, 0, none⟩ = some (.int .i64 4) := by rw [← hW0, ← hqq]; clear hW0 hqq hm0 hm1 hm2 hm3 hm4 hn1 hn2 hn3 hn4 hmk4 hmk8; go_simp
  have hc_W0 : W0.cell? ⟨q, 1, none⟩ = some (.int .i64 8) := by rw [← hW0, ← hqq]; clear hW0 hqq hm0 hm1 hm2 hm3 hm4 hn1 hn2 hn3 hn4 hmk4 hmk8; go_simp
  rw [hW0, hqq]
  clear hW0 hqq hpr hbb4
  rw [rounds_succ]; go_wp2_with fail
  refine wp_loop_rounds 2 ?_
  (rw [rounds_succ]; go_wp2_with fail)
  (rw [rounds_succ]; go_wp2_with fail)
  obtain ⟨X4, hX4⟩ : ∃ W, (W0).alloc (.cells #[.int .u8 (0), .int .u8 (0), .int .u8 (0), .int .u8 (n)] 5) = W := ⟨_, rfl⟩
  obtain ⟨g4, hg4⟩ : ∃ g, (W0).heap.size = g := ⟨_, rfl⟩
  have hoX4 : Own .u8 5 X4 w.heap.size (.slice (some ⟨g4, 0, none⟩) 4 4) [0, 0, 0, n] := by rw [← hX4, ← hg4]; exact (Own.new (W0) [0, 0, 0, n] 5 (by simp [maxLen])).less hb_W0.size
  have hb_X4 : Below w.heap.size w X4 := by rw [← hX4]; exact hb_W0.alloc hb_W0.size _
  have hc_X4 : X4.cell? ⟨q, 1, none⟩ = some (.int .i64 8) := by rw [← hX4, World.cell?_alloc_lt _ _ _ hq_W0]; exact hc_W0
  have hq_X4 : q < X4.heap.size := by rw [← hX4, World.size_alloc]; omega
  have hglX4 : g4 < X4.heap.size := by rw [← hX4, World.size_alloc]; omega
  have hc5 : X4.cell? ⟨g4, 0, none⟩ = some (.int .u8 0) := by obtain ⟨gg, e, _, _, _, hcc, _⟩ := hoX4.block (by omega); injection e with e; injection e with e _ _; subst e; exact hcc 0 (by omega)
  have hf5 : X4.frozen? ⟨g4, 0, none⟩ = false := by obtain ⟨gg, e, _, _, _, _, hff⟩ := hoX4.block (by omega); injection e with e; injection e with e _ _; subst e; exact hff 0
  have hgq4 : g4 ≠ q := by rw [← hg4]; omega
  have hgB4 : w.heap.size ≤ g4 := by rw [← hg4]; exact hb_W0.size
  rw [hX4, hg4]
  have hca : ∀ o, (X4.alloc o).cell? ⟨g4, 0, none⟩ = some (.int .u8 0) := fun o => by rw [World.cell?_alloc_lt _ _ _ hglX4]; exact hc5
  have hfa : ∀ o, (X4.alloc o).frozen? ⟨g4, 0, none⟩ = false := fun o => by rw [World.frozen?_alloc_past _ _ _ hglX4]; exact hf5
  have HO4 := Lib.hid hoX4
  have HC4 := Lib.hid hc_X4
  clear hX4 hg4 hoX4 hc_X4 hc_W0 hglX4
  go_region
  · clear hc5 hf5 hca hfa
    obtain ⟨Y4, hY4⟩ : ∃ W, ((X4.alloc M2).setCell ⟨g4, 0, none⟩ (.int .u8 128)).drew = W := ⟨_, rfl⟩
    have hrd : Rd .u8 Y4 (some ⟨g4, 0, none⟩) [128, 0, 0, n] := by rw [← hY4]; exact ((HO4.out.alloc _).stored rfl 0 128).rd.drew
    have hb_Y4 : Below w.heap.size w Y4 := by rw [← hY4]; exact ((hb_X4.alloc hb_X4.size _).setCell hgB4 _).drew
    have hq_Y4 : q < Y4.heap.size := by rw [← hY4]; simp only [World.size_drew, World.size_alloc, World.size_setCell]; omega
    have hc_Y4 : Y4.cell? ⟨q, 1, none⟩ = some (.int .i64 8) := by rw [← hY4]; exact (World.cell?_setCell_other _ _ _ _ (by intro e; injection e with e1; exact hgq4 e1)).trans ((World.cell?_alloc_lt _ _ _ hq_X4).trans HC4.out)
    rw [hY4]
    have HRD4 := Lib.hid hrd
    clear hY4 hrd
    go_wp2_with fail
    refine (take_any (some ⟨g4, 0, none⟩) 4 4 _ Y4 rfl (Nat.le_refl _) HRD4.out (by simp only [List.mem_cons, List.not_mem_nil, or_false]; intro y hy; rcases hy with hy | hy | hy | hy <;> omega)).mono ?_
    rw [takeV_no (xs := [128, 0, 0, n]) (s := 4) (m := n) (show leadV 128 = 4 by decide) (by simp) (show ((((128 % 64) * 256 + 0) * 256 + 0) * 256 + n) = n by omega) (by rw [hs]; decide)]
    rintro e w' ⟨rfl, rfl⟩
    clear HO4 HC4 HRD4
    go_wp2_with fail
    rw [rounds_succ]; go_wp2_with fail
    refine wp_loop_rounds 2 ?_
    (rw [rounds_succ]; go_wp2_with fail)
    (rw [rounds_succ]; go_wp2_with fail)
    obtain ⟨X8, hX8⟩ : ∃ W, (Y4).alloc (.cells #[.int .u8 (0), .int .u8 (0), .int .u8 (0), .int .u8 (0), .int .u8 (0), .int .u8 (0), .int .u8 (0), .int .u8 (n)] 5) = W := ⟨_, rfl⟩
    obtain ⟨g8, hg8⟩ : ∃ g, (Y4).heap.size = g := ⟨_, rfl⟩
    have hoX8 : Own .u8 5 X8 w.heap.size (.slice (some ⟨g8, 0, none⟩) 8 8) [0, 0, 0, 0, 0, 0, 0, n] := by rw [← hX8, ← hg8]; exact (Own.new (Y4) [0, 0, 0, 0, 0, 0, 0, n] 5 (by simp [maxLen])).less hb_Y4.size
    have hb_X8 : Below w.heap.size w X8 := by rw [← hX8]; exact hb_Y4.alloc hb_Y4.size _
    have hc_X8 : X8.cell? ⟨q, 1, none⟩ = some (.int .i64 8) := by rw [← hX8, World.cell?_alloc_lt _ _ _ hq_Y4]; exact hc_Y4
    have hq_X8 : q < X8.heap.size := by rw [← hX8, World.size_alloc]; omega
    have hglX8 : g8 < X8.heap.size := by rw [← hX8, World.size_alloc]; omega
    have hc5 : X8.cell? ⟨g8, 0, none⟩ = some (.int .u8 0) := by obtain ⟨gg, e, _, _, _, hcc, _⟩ := hoX8.block (by omega); injection e with e; injection e with e _ _; subst e; exact hcc 0 (by omega)
    have hf5 : X8.frozen? ⟨g8, 0, none⟩ = false := by obtain ⟨gg, e, _, _, _, _, hff⟩ := hoX8.block (by omega); injection e with e; injection e with e _ _; subst e; exact hff 0
    have hgq8 : g8 ≠ q := by rw [← hg8]; omega
    have hgB8 : w.heap.size ≤ g8 := by rw [← hg8]; exact hb_Y4.size
    rw [hX8, hg8]
    have hca : ∀ o, (X8.alloc o).cell? ⟨g8, 0, none⟩ = some (.int .u8 0) := fun o => by rw [World.cell?_alloc_lt _ _ _ hglX8]; exact hc5
    have hfa : ∀ o, (X8.alloc o).frozen? ⟨g8, 0, none⟩ = false := fun o => by rw [World.frozen?_alloc_past _ _ _ hglX8]; exact hf5
    have HO8 := Lib.hid hoX8
    have HC8 := Lib.hid hc_X8
    clear hX8 hg8 hoX8 hc_X8 hc_Y4 hglX8
    go_region
    · clear hc5 hf5 hca hfa
      obtain ⟨Y8, hY8⟩ : ∃ W, ((X8.alloc M2).setCell ⟨g8, 0, none⟩ (.int .u8 192)).drew = W := ⟨_, rfl⟩
      have hrd : Rd .u8 Y8 (some ⟨g8, 0, none⟩) [192, 0, 0, 0, 0, 0, 0, n] := by rw [← hY8]; exact ((HO8.out.alloc _).stored rfl 0 192).rd.drew
      have hb_Y8 : Below w.heap.size w Y8 := by rw [← hY8]; exact ((hb_X8.alloc hb_X8.size _).setCell hgB8 _).drew
      have hq_Y8 : q < Y8.heap.size := by rw [← hY8]; simp only [World.size_drew, World.size_alloc, World.size_setCell]; omega
      have hc_Y8 : Y8.cell? ⟨q, 1, none⟩ = some (.int .i64 8) := by rw [← hY8]; exact (World.cell?_setCell_other _ _ _ _ (by intro e; injection e with e1; exact hgq8 e1)).trans ((World.cell?_alloc_lt _ _ _ hq_X8).trans HC8.out)
      rw [hY8]
      have HRD8 := Lib.hid hrd
      clear hY8 hrd
      go_wp2_with fail
      refine (take_any (some ⟨g8, 0, none⟩) 8 8 _ Y8 rfl (Nat.le_refl _) HRD8.out (by simp only [List.mem_cons, List.not_mem_nil, or_false]; intro y hy; rcases hy with hy | hy | hy | hy | hy | hy | hy | hy <;> omega)).mono ?_
      rw [takeV_no (xs := [192, 0, 0, 0, 0, 0, 0, n]) (s := 8) (m := n) (show leadV 192 = 8 by decide) (by simp) (show ((((((((192 % 64) * 256 + 0) * 256 + 0) * 256 + 0) * 256 + 0) * 256 + 0) * 256 + 0) * 256 + n) = n by omega) (by rw [hs]; decide)]
      rintro e w' ⟨rfl, rfl⟩
      clear HO8 HC8 HRD8
      go_wp2_with fail
      rw [rounds_succ]; go_wp2_with fail
      refine (wakes_any _).mono ?_
      rintro e w9 ⟨rfl, hb9⟩
      go_wp2_with fail
      go_ret
      exact ⟨rfl, hb_Y8.trans (hb9.mono hb_Y8.size)⟩
    · clear hc5 hf5 hca hfa
      obtain ⟨Y8, hY8⟩ : ∃ W, ((X8.alloc M4).setCell ⟨g8, 0, none⟩ (.int .u8 192)).drew = W := ⟨_, rfl⟩
      have hrd : Rd .u8 Y8 (some ⟨g8, 0, none⟩) [192, 0, 0, 0, 0, 0, 0, n] := by rw [← hY8]; exact ((HO8.out.alloc _).stored rfl 0 192).rd.drew
      have hb_Y8 : Below w.heap.size w Y8 := by rw [← hY8]; exact ((hb_X8.alloc hb_X8.size _).setCell hgB8 _).drew
      have hq_Y8 : q < Y8.heap.size := by rw [← hY8]; simp only [World.size_drew, World.size_alloc, World.size_setCell]; omega
      have hc_Y8 : Y8.cell? ⟨q, 1, none⟩ = some (.int .i64 8) := by rw [← hY8]; exact (World.cell?_setCell_other _ _ _ _ (by intro e; injection e with e1; exact hgq8 e1)).trans ((World.cell?_alloc_lt _ _ _ hq_X8).trans HC8.out)
      rw [hY8]
      have HRD8 := Lib.hid hrd
      clear hY8 hrd
      go_wp2_with fail
      refine (take_any (some ⟨g8, 0, none⟩) 8 8 _ Y8 rfl (Nat.le_refl _) HRD8.out (by simp only [List.mem_cons, List.not_mem_nil, or_false]; intro y hy; rcases hy with hy | hy | hy | hy | hy | hy | hy | hy <;> omega)).mono ?_
      rw [takeV_no (xs := [192, 0, 0, 0, 0, 0, 0, n]) (s := 8) (m := n) (show leadV 192 = 8 by decide) (by simp) (show ((((((((192 % 64) * 256 + 0) * 256 + 0) * 256 + 0) * 256 + 0) * 256 + 0) * 256 + 0) * 256 + n) = n by omega) (by rw [hs]; decide)]
      rintro e w' ⟨rfl, rfl⟩
      clear HO8 HC8 HRD8
      go_wp2_with fail
      rw [rounds_succ]; go_wp2_with fail
      refine (wakes_any _).mono ?_
      rintro e w9 ⟨rfl, hb9⟩
      go_wp2_with fail
      go_ret
      exact ⟨rfl, hb_Y8.trans (hb9.mono hb_Y8.size)⟩
  · clear hc5 hf5 hca hfa
    obtain ⟨Y4, hY4⟩ : ∃ W, ((X4.alloc M4).setCell ⟨g4, 0, none⟩ (.int .u8 128)).drew = W := ⟨_, rfl⟩
    have hrd : Rd .u8 Y4 (some ⟨g4, 0, none⟩) [128, 0, 0, n] := by rw [← hY4]; exact ((HO4.out.alloc _).stored rfl 0 128).rd.drew
    have hb_Y4 : Below w.heap.size w Y4 := by rw [← hY4]; exact ((hb_X4.alloc hb_X4.size _).setCell hgB4 _).drew
    have hq_Y4 : q < Y4.heap.size := by rw [← hY4]; simp only [World.size_drew, World.size_alloc, World.size_setCell]; omega
    have hc_Y4 : Y4.cell? ⟨q, 1, none⟩ = some (.int .i64 8) := by rw [← hY4]; exact (World.cell?_setCell_other _ _ _ _ (by intro e; injection e with e1; exact hgq4 e1)).trans ((World.cell?_alloc_lt _ _ _ hq_X4).trans HC4.out)
    rw [hY4]
    have HRD4 := Lib.hid hrd
    clear hY4 hrd
    go_wp2_with fail
    refine (take_any (some ⟨g4, 0, none⟩) 4 4 _ Y4 rfl (Nat.le_refl _) HRD4.out (by simp only [List.mem_cons, List.not_mem_nil, or_false]; intro y hy; rcases hy with hy | hy | hy | hy <;> omega)).mono ?_
    rw [takeV_no (xs := [128, 0, 0, n]) (s := 4) (m := n) (show leadV 128 = 4 by decide) (by simp) (show ((((128 % 64) * 256 + 0) * 256 + 0) * 256 + n) = n by omega) (by rw [hs]; decide)]
    rintro e w' ⟨rfl, rfl⟩
    clear HO4 HC4 HRD4
    go_wp2_with fail
    rw [rounds_succ]; go_wp2_with fail
    refine wp_loop_rounds 2 ?_
    (rw [rounds_succ]; go_wp2_with fail)
    (rw [rounds_succ]; go_wp2_with fail)
    obtain ⟨X8, hX8⟩ : ∃ W, (Y4).alloc (.cells #[.int .u8 (0), .int .u8 (0), .int .u8 (0), .int .u8 (0), .int .u8 (0), .int .u8 (0), .int .u8 (0), .int .u8 (n)] 5) = W := ⟨_, rfl⟩
    obtain ⟨g8, hg8⟩ : ∃ g, (Y4).heap.size = g := ⟨_, rfl⟩
    have hoX8 : Own .u8 5 X8 w.heap.size (.slice (some ⟨g8, 0, none⟩) 8 8) [0, 0, 0, 0, 0, 0, 0, n] := by rw [← hX8, ← hg8]; exact (Own.new (Y4) [0, 0, 0, 0, 0, 0, 0, n] 5 (by simp [maxLen])).less hb_Y4.size
    have hb_X8 : Below w.heap.size w X8 := by rw [← hX8]; exact hb_Y4.alloc hb_Y4.size _
    have hc_X8 : X8.cell? ⟨q, 1, none⟩ = some (.int .i64 8) := by rw [← hX8, World.cell?_alloc_lt _ _ _ hq_Y4]; exact hc_Y4
    have hq_X8 : q < X8.heap.size := by rw [← hX8, World.size_alloc]; omega
    have hglX8 : g8 < X8.heap.size := by rw [← hX8, World.size_alloc]; omega
    have hc5 : X8.cell? ⟨g8, 0, none⟩ = some (.int .u8 0) := by obtain ⟨gg, e, _, _, _, hcc, _⟩ := hoX8.block (by omega); injection e with e; injection e with e _ _; subst e; exact hcc 0 (by omega)
    have hf5 : X8.frozen? ⟨g8, 0, none⟩ = false := by obtain ⟨gg, e, _, _, _, _, hff⟩ := hoX8.block (by omega); injection e with e; injection e with e _ _; subst e; exact hff 0
    have hgq8 : g8 ≠ q := by rw [← hg8]; omega
    have hgB8 : w.heap.size ≤ g8 := by rw [← hg8]; exact hb_Y4.size
    rw [hX8, hg8]
    have hca : ∀ o, (X8.alloc o).cell? ⟨g8, 0, none⟩ = some (.int .u8 0) := fun o => by rw [World.cell?_alloc_lt _ _ _ hglX8]; exact hc5
    have hfa : ∀ o, (X8.alloc o).frozen? ⟨g8, 0, none⟩ = false := fun o => by rw [World.frozen?_alloc_past _ _ _ hglX8]; exact hf5
    have HO8 := Lib.hid hoX8
    have HC8 := Lib.hid hc_X8
    clear hX8 hg8 hoX8 hc_X8 hc_Y4 hglX8
    go_region
    · clear hc5 hf5 hca hfa
      obtain ⟨Y8, hY8⟩ : ∃ W, ((X8.alloc M2).setCell ⟨g8, 0, none⟩ (.int .u8 192)).drew = W := ⟨_, rfl⟩
      have hrd : Rd .u8 Y8 (some ⟨g8, 0, none⟩) [192, 0, 0, 0, 0, 0, 0, n] := by rw [← hY8]; exact ((HO8.out.alloc _).stored rfl 0 192).rd.drew
      have hb_Y8 : Below w.heap.size w Y8 := by rw [← hY8]; exact ((hb_X8.alloc hb_X8.size _).setCell hgB8 _).drew
      have hq_Y8 : q < Y8.heap.size := by rw [← hY8]; simp only [World.size_drew, World.size_alloc, World.size_setCell]; omega
      have hc_Y8 : Y8.cell? ⟨q, 1, none⟩ = some (.int .i64 8) := by rw [← hY8]; exact (World.cell?_setCell_other _ _ _ _ (by intro e; injection e with e1; exact hgq8 e1)).trans ((World.cell?_alloc_lt _ _ _ hq_X8).trans HC8.out)
      rw [hY8]
      have HRD8 := Lib.hid hrd
      clear hY8 hrd
      go_wp2_with fail
      refine (take_any (some ⟨g8, 0, none⟩) 8 8 _ Y8 rfl (Nat.le_refl _) HRD8.out (by simp only [List.mem_cons, List.not_mem_nil, or_false]; intro y hy; rcases hy with hy | hy | hy | hy | hy | hy | hy | hy <;> omega)).mono ?_
      rw [takeV_no (xs := [192, 0, 0, 0, 0, 0, 0, n]) (s := 8) (m := n) (show leadV 192 = 8 by decide) (by simp) (show ((((((((192 % 64) * 256 + 0) * 256 + 0) * 256 + 0) * 256 + 0) * 256 + 0) * 256 + 0) * 256 + n) = n by omega) (by rw [hs]; decide)]
      rintro e w' ⟨rfl, rfl⟩
      clear HO8 HC8 HRD8
      go_wp2_with fail
      rw [rounds_succ]; go_wp2_with fail
      refine (wakes_any _).mono ?_
      rintro e w9 ⟨rfl, hb9⟩
      go_wp2_with fail
      go_ret
      exact ⟨rfl, hb_Y8.trans (hb9.mono hb_Y8.size)⟩
    · clear hc5 hf5 hca hfa
      obtain ⟨Y8, hY8⟩ : ∃ W, ((X8.alloc M4).setCell ⟨g8, 0, none⟩ (.int .u8 192)).drew = W := ⟨_, rfl⟩
      have hrd : Rd .u8 Y8 (some ⟨g8, 0, none⟩) [192, 0, 0, 0, 0, 0, 0, n] := by rw [← hY8]; exact ((HO8.out.alloc _).stored rfl 0 192).rd.drew
      have hb_Y8 : Below w.heap.size w Y8 := by rw [← hY8]; exact ((hb_X8.alloc hb_X8.size _).setCell hgB8 _).drew
      have hq_Y8 : q < Y8.heap.size := by rw [← hY8]; simp only [World.size_drew, World.size_alloc, World.size_setCell]; omega
      have hc_Y8 : Y8.cell? ⟨q, 1, none⟩ = some (.int .i64 8) := by rw [← hY8]; exact (World.cell?_setCell_other _ _ _ _ (by intro e; injection e with e1; exact hgq8 e1)).trans ((World.cell?_alloc_lt _ _ _ hq_X8).trans HC8.out)
      rw [hY8]
      have HRD8 := Lib.hid hrd
      clear hY8 hrd
      go_wp2_with fail
      refine (take_any (some ⟨g8, 0, none⟩) 8 8 _ Y8 rfl (Nat.le_refl _) HRD8.out (by simp only [List.mem_cons, List.not_mem_nil, or_false]; intro y hy; rcases hy with hy | hy | hy | hy | hy | hy | hy | hy <;> omega)).mono ?_
      rw [takeV_no (xs := [192, 0, 0, 0, 0, 0, 0, n]) (s := 8) (m := n) (show leadV 192 = 8 by decide) (by simp) (show ((((((((192 % 64) * 256 + 0) * 256 + 0) * 256 + 0) * 256 + 0) * 256 + 0) * 256 + 0) * 256 + n) = n by omega) (by rw [hs]; decide)]
      rintro e w' ⟨rfl, rfl⟩
      clear HO8 HC8 HRD8
      go_wp2_with fail
      rw [rounds_succ]; go_wp2_with fail
      refine (wakes_any _).mono ?_
      rintro e w9 ⟨rfl, hb9⟩
      go_wp2_with fail
      go_ret
      exact ⟨rfl, hb_Y8.trans (hb9.mono hb_Y8.size)⟩

set_option maxRecDepth 100000 in
set_option maxHeartbeats 2000000 in
theorem vintBack_2 (a0 a1 c cut : Int) (w : World) (hcb : 0 ≤ c ∧ c < 256) (n : Int) (h1 : 64 ≤ n) (h2 : n < 16384) (hN : Calls Try.prog 9 #[.int .i64 a0, .int .i64 a1] w (IntIs n w)) :
    Calls Try.prog 6 #[.int .i64 a0, .int .i64 a1, .int .u8 c, .int .i64 cut] w fun e w' => e = .returned (.bool true) ∧ Below w.heap.size w w' := by
  have hmk4 : ∀ w, (Instr.makeSlice 24 (.int .i64 4) (.int .i64 4)).run Try.prog w = .ok (.slice (some ⟨w.heap.size, 0, none⟩) 4 4) (w.alloc (.cells #[.int .u8 0, .int .u8 0, .int .u8 0, .int .u8 0] 5)) := fun _ => by kernel_rfl
  have hmk8 : ∀ w, (Instr.makeSlice 24 (.int .i64 8) (.int .i64 8)).run Try.prog w = .ok (.slice (some ⟨w.heap.size, 0, none⟩) 8 8) (w.alloc (.cells #[.int .u8 0, .int .u8 0, .int .u8 0, .int .u8 0, .int .u8 0, .int .u8 0, .int .u8 0, .int .u8 0] 5)) := fun _ => by kernel_rfl
  have hm0 := mk_map
  have hm1 : ∀ w : World, (Instr.mapUpdate 37 (.map (some w.heap.size)) (.int .i64 4) (.int .i64 2)).run Try.prog ((w.alloc M0).drew) = .ok () ((w.alloc M1).drew) := fun w => ins4 w.drew
  have hm2 : ∀ w : World, (Instr.mapUpdate 37 (.map (some w.heap.size)) (.int .i64 8) (.int .i64 3)).run Try.prog ((w.alloc M1).drew) = .ok () ((w.alloc M2).drew) := fun w => ins8 w.drew
  have hm3 : ∀ w : World, (Instr.lookup 37 (.map (some w.heap.size)) (.int .i64 4) false).run Try.prog ((w.alloc M2).drew) = .ok (.int .i64 2) ((w.alloc M2).drew) := fun w => look4 w.drew
  have hm4 : ∀ w : World, (Instr.lookup 37 (.map (some w.heap.size)) (.int .i64 8) false).run Try.prog ((w.alloc M2).drew) = .ok (.int .i64 3) ((w.alloc M2).drew) := fun w => look8 w.drew
  have hn1 : ∀ w : World, (Instr.mapUpdate 37 (.map (some w.heap.size)) (.int .i64 8) (.int .i64 3)).run Try.prog ((w.alloc M0).drew) = .ok () ((w.alloc M3).drew) := fun w => ins8' w.drew
  have hn2 : ∀ w : World, (Instr.mapUpdate 37 (.map (some w.heap.size)) (.int .i64 4) (.int .i64 2)).run Try.prog ((w.alloc M3).drew) = .ok () ((w.alloc M4).drew) := fun w => ins4' w.drew
  have hn3 : ∀ w : World, (Instr.lookup 37 (.map (some w.heap.size)) (.int .i64 4) false).run Try.prog ((w.alloc M4).drew) = .ok (.int .i64 2) ((w.alloc M4).drew) := fun w => look4' w.drew
  have hn4 : ∀ w : World, (Instr.lookup 37 (.map (some w.heap.size)) (.int .i64 8) false).run Try.prog ((w.alloc M4).drew) = .ok (.int .i64 3) ((w.alloc M4).drew) := fun w => look8' w.drew
  have ho4 : bits .or .u8 0 128 = 128 := by decide
  have ho8 : bits .or .u8 0 192 = 192 := by decide
  have HN := Lib.hid hN
  clear hN
  go_enter Try.func6, Try.ntmps6
  go_wp2_with fail
  refine (HN.out).mono ?_
  rintro e w1 ⟨rfl, hb1⟩
  clear HN
  have hs := szV_2 h1 h2
  have hls : (putL n).length = 2 := by rw [putL_2 h1 h2]; rfl
  have HLS := Lib.hid hls
  clear hls
  go_wp2_with fail
  refine (put_own n w1).mono ?_
  rintro e w2 ⟨Pp, cp, rfl, hp, hb2⟩
  rw [HLS.out] at hp ⊢
  have hcp := hp.cap
  have hbb : Below w.heap.size w w2 := hb1.trans (hb2.mono hb1.size)
  clear hb1 hb2
  go_wp2_with (go_at_call 12; refine (size_any _ _).mono ?_; rintro e w' ⟨rfl, rfl⟩)
  refine (copy_any Pp 2 cp (putL n) w2 HLS.out hp.rd (by omega)).mono ?_
  rintro e w3 ⟨C, cc, rfl, hc, hb3⟩
  rw [← HLS.out] at hc
  go_wp2_with (at_builtin; refine wpList_app _ .u8 rfl (.tmp 73) (.tmp 75) 24 rfl 5 (.int .u8 0) 1 Try.underlying24 info_byte rfl w2.heap.size (.slice C 2 cc) (putL n) rfl ((show Own .u8 5 w3 w2.heap.size (.slice C 2 cc) (putL n) from by rw [HLS.out] at hc; exact hc).alloc _) _ _ _ rfl [c] rfl (rd_one _ _ _ _) (by rw [HLS.out]; simp [maxLen]) (by rw [HLS.out]; simp) (by have := hb3.size; simp only [World.size_alloc]; omega) ?_; intro D dd w4 hd hg4)
  rw [HLS.out] at hd hc ⊢
  have hb4 : Below w2.heap.size w2 w4 := (hb3.alloc hb3.size _).grown hg4 (by have := hb3.size; simp only [World.size_alloc]; omega) (fun g hg => (hc.lt g hg).1)
  have hpr : Rd .u8 w4 Pp (putL n) := hp.rd.later hb4
  have hbb4 := hbb.trans (hb4.mono hbb.size)
  have HTV := Lib.hid (takeV_putL (x := n) (by omega) (by omega) [c])
  clear hg4 hb3 hb4 hbb hc hp
  refine (take_any D (2 + 1) dd (putL n ++ [c]) w4 (by rw [List.length_append, HLS.out]; rfl) hd.cap hd.rd (fun y hy => by
    rcases List.mem_append.1 hy with hy | hy
    · exact putL_bytes n y hy
    · rw [List.mem_singleton.1 hy]; exact hcb)).mono ?_
  rw [HTV.out, HLS.out]
  rintro e w' ⟨rfl, rfl⟩
  clear hd
  go_wp2_with fail
  refine (within_any cut 2 w4 (by omega) (by omega)).mono ?_
  rintro e w' ⟨rfl, rfl⟩
  obtain ⟨j, hj⟩ : ∃ j : Nat, cut % 2 = (j : Int) := ⟨(cut % 2).toNat, by omega⟩
  have hj1 : (j : Int) < 2 := by omega
  have hj2 : (0 : Int) ≤ (j : Int) := by omega
  have hj3 : (j : Int) ≤ (cp : Int) := by omega
  rw [hj]
  have HTC := Lib.hid (takeV_cut (x := n) (by omega) (by omega) (j := j) (by rw [HLS.out]; omega))
  clear hj
  go_wp2_with fail
  refine (take_any Pp j cp ((putL n).take j) w4 (by rw [List.length_take, HLS.out]; omega) (by omega) (hpr.take j) (fun y hy => putL_bytes n y (List.mem_of_mem_take hy))).mono ?_
  rw [HTC.out]
  rintro e w' ⟨rfl, rfl⟩
  clear hj1 hj2 hj3
  go_wp2_with fail
  refine wp_loop_rounds 3 ?_
  obtain ⟨W0, hW0⟩ : ∃ W, w4.alloc (.cells #[.int .i64 4, .int .i64 8] 3) = W := ⟨_, rfl⟩
  obtain ⟨q, hqq⟩ : ∃ q, w4.heap.size = q := ⟨_, rfl⟩
  have hb_W0 : Below w.heap.size w W0 := by rw [← hW0]; exact hbb4.alloc hbb4.size _
  have hq_W0 : q < W0.heap.size := by rw [← hW0, World.size_alloc]; omega
  have hc0 : W0.cell? ⟨q, 0, none⟩ = some (.int .i64 4) := by rw [← hW0, ← hqq]; clear hW0 hqq hm0 hm1 hm2 hm3 hm4 hn1 hn2 hn3 hn4 hmk4 hmk8; go_simp
  have hc_W0 : W0.cell? ⟨q, 1, none⟩ = some (.int .i64 8) := by rw [← hW0, ← hqq]; clear hW0 hqq hm0 hm1 hm2 hm3 hm4 hn1 hn2 hn3 hn4 hmk4 hmk8; go_simp
  rw [hW0, hqq]
  clear hW0 hqq hpr hbb4
  rw [rounds_succ]; go_wp2_with fail
  refine wp_loop_rounds 3 ?_
  (rw [rounds_succ]; go_wp2_with fail)
  (rw [rounds_succ]; go_wp2_with fail)
  (rw [rounds_succ]; go_wp2_with fail)
  obtain ⟨X4, hX4⟩ : ∃ W, (W0).alloc (.cells #[.int .u8 (0), .int .u8 (0), .int .u8 (n / 256), .int .u8 (n % 256)] 5) = W := ⟨_, rfl⟩
  obtain ⟨g4, hg4⟩ : ∃ g, (W0).heap.size = g := ⟨_, rfl⟩
  have hoX4 : Own .u8 5 X4 w.heap.size (.slice (some ⟨g4, 0, none⟩) 4 4) [0, 0, n / 256, n % 256] := by rw [← hX4, ← hg4]; exact (Own.new (W0) [0, 0, n / 256, n % 256] 5 (by simp [maxLen])).less hb_W0.size
  have hb_X4 : Below w.heap.size w X4 := by rw [← hX4]; exact hb_W0.alloc hb_W0.size _
  have hc_X4 : X4.cell? ⟨q, 1, none⟩ = some (.int .i64 8) := by rw [← hX4, World.cell?_alloc_lt _ _ _ hq_W0]; exact hc_W0
  have hq_X4 : q < X4.heap.size := by rw [← hX4, World.size_alloc]; omega
  have hglX4 : g4 < X4.heap.size := by rw [← hX4, World.size_alloc]; omega
  have hc5 : X4.cell? ⟨g4, 0, none⟩ = some (.int .u8 0) := by obtain ⟨gg, e, _, _, _, hcc, _⟩ := hoX4.block (by omega); injection e with e; injection e with e _ _; subst e; exact hcc 0 (by omega)
  have hf5 : X4.frozen? ⟨g4, 0, none⟩ = false := by obtain ⟨gg, e, _, _, _, _, hff⟩ := hoX4.block (by omega); injection e with e; injection e with e _ _; subst e; exact hff 0
  have hgq4 : g4 ≠ q := by rw [← hg4]; omega
  have hgB4 : w.heap.size ≤ g4 := by rw [← hg4]; exact hb_W0.size
  rw [hX4, hg4]
  have hca : ∀ o, (X4.alloc o).cell? ⟨g4, 0, none⟩ = some (.int .u8 0) := fun o => by rw [World.cell?_alloc_lt _ _ _ hglX4]; exact hc5
  have hfa : ∀ o, (X4.alloc o).frozen? ⟨g4, 0, none⟩ = false := fun o => by rw [World.frozen?_alloc_past _ _ _ hglX4]; exact hf5
  have HO4 := Lib.hid hoX4
  have HC4 := Lib.hid hc_X4
  clear hX4 hg4 hoX4 hc_X4 hc_W0 hglX4
  go_region
  · clear hc5 hf5 hca hfa
    obtain ⟨Y4, hY4⟩ : ∃ W, ((X4.alloc M2).setCell ⟨g4, 0, none⟩ (.int .u8 128)).drew = W := ⟨_, rfl⟩
    have hrd : Rd .u8 Y4 (some ⟨g4, 0, none⟩) [128, 0, n / 256, n % 256] := by rw [← hY4]; exact ((HO4.out.alloc _).stored rfl 0 128).rd.drew
    have hb_Y4 : Below w.heap.size w Y4 := by rw [← hY4]; exact ((hb_X4.alloc hb_X4.size _).setCell hgB4 _).drew
    have hq_Y4 : q < Y4.heap.size := by rw [← hY4]; simp only [World.size_drew, World.size_alloc, World.size_setCell]; omega
    have hc_Y4 : Y4.cell? ⟨q, 1, none⟩ = some (.int .i64 8) := by rw [← hY4]; exact (World.cell?_setCell_other _ _ _ _ (by intro e; injection e with e1; exact hgq4 e1)).trans ((World.cell?_alloc_lt _ _ _ hq_X4).trans HC4.out)
    rw [hY4]
    have HRD4 := Lib.hid hrd
    clear hY4 hrd
    go_wp2_with fail
    refine (take_any (some ⟨g4, 0, none⟩) 4 4 _ Y4 rfl (Nat.le_refl _) HRD4.out (by simp only [List.mem_cons, List.not_mem_nil, or_false]; intro y hy; rcases hy with hy | hy | hy | hy <;> omega)).mono ?_
    rw [takeV_no (xs := [128, 0, n / 256, n % 256]) (s := 4) (m := n) (show leadV 128 = 4 by decide) (by simp) (show ((((128 % 64) * 256 + 0) * 256 + (n / 256)) * 256 + (n % 256)) = n by omega) (by rw [hs]; decide)]
    rintro e w' ⟨rfl, rfl⟩
    clear HO4 HC4 HRD4
    go_wp2_with fail
    rw [rounds_succ]; go_wp2_with fail
    refine wp_loop_rounds 3 ?_
    (rw [rounds_succ]; go_wp2_with fail)
    (rw [rounds_succ]; go_wp2_with fail)
    (rw [rounds_succ]; go_wp2_with fail)
    obtain ⟨X8, hX8⟩ : ∃ W, (Y4).alloc (.cells #[.int .u8 (0), .int .u8 (0), .int .u8 (0), .int .u8 (0), .int .u8 (0), .int .u8 (0), .int .u8 (n / 256), .int .u8 (n % 256)] 5) = W := ⟨_, rfl⟩
    obtain ⟨g8, hg8⟩ : ∃ g, (Y4).heap.size = g := ⟨_, rfl⟩
    have hoX8 : Own .u8 5 X8 w.heap.size (.slice (some ⟨g8, 0, none⟩) 8 8) [0, 0, 0, 0, 0, 0, n / 256, n % 256] := by rw [← hX8, ← hg8]; exact (Own.new (Y4) [0, 0, 0, 0, 0, 0, n / 256, n % 256] 5 (by simp [maxLen])).less hb_Y4.size
    have hb_X8 : Below w.heap.size w X8 := by rw [← hX8]; exact hb_Y4.alloc hb_Y4.size _
    have hc_X8 : X8.cell? ⟨q, 1, none⟩ = some (.int .i64 8) := by rw [← hX8, World.cell?_alloc_lt _ _ _ hq_Y4]; exact hc_Y4
    have hq_X8 : q < X8.heap.size := by rw [← hX8, World.size_alloc]; omega
    have hglX8 : g8 < X8.heap.size := by rw [← hX8, World.size_alloc]; omega
    have hc5 : X8.cell? ⟨g8, 0, none⟩ = some (.int .u8 0) := by obtain ⟨gg, e, _, _, _, hcc, _⟩ := hoX8.block (by omega); injection e with e; injection e with e _ _; subst e; exact hcc 0 (by omega)
    have hf5 : X8.frozen? ⟨g8, 0, none⟩ = false := by obtain ⟨gg, e, _, _, _, _, hff⟩ := hoX8.block (by omega); injection e with e; injection e with e _ _; subst e; exact hff 0
    have hgq8 : g8 ≠ q := by rw [← hg8]; omega
    have hgB8 : w.heap.size ≤ g8 := by rw [← hg8]; exact hb_Y4.size
    rw [hX8, hg8]
    have hca : ∀ o, (X8.alloc o).cell? ⟨g8, 0, none⟩ = some (.int .u8 0) := fun o => by rw [World.cell?_alloc_lt _ _ _ hglX8]; exact hc5
    have hfa : ∀ o, (X8.alloc o).frozen? ⟨g8, 0, none⟩ = false := fun o => by rw [World.frozen?_alloc_past _ _ _ hglX8]; exact hf5
    have HO8 := Lib.hid hoX8
    have HC8 := Lib.hid hc_X8
    clear hX8 hg8 hoX8 hc_X8 hc_Y4 hglX8
    go_region
    · clear hc5 hf5 hca hfa
      obtain ⟨Y8, hY8⟩ : ∃ W, ((X8.alloc M2).setCell ⟨g8, 0, none⟩ (.int .u8 192)).drew = W := ⟨_, rfl⟩
      have hrd : Rd .u8 Y8 (some ⟨g8, 0, none⟩) [192, 0, 0, 0, 0, 0, n / 256, n % 256] := by rw [← hY8]; exact ((HO8.out.alloc _).stored rfl 0 192).rd.drew
      have hb_Y8 : Below w.heap.size w Y8 := by rw [← hY8]; exact ((hb_X8.alloc hb_X8.size _).setCell hgB8 _).drew
      have hq_Y8 : q < Y8.heap.size := by rw [← hY8]; simp only [World.size_drew, World.size_alloc, World.size_setCell]; omega
      have hc_Y8 : Y8.cell? ⟨q, 1, none⟩ = some (.int .i64 8) := by rw [← hY8]; exact (World.cell?_setCell_other _ _ _ _ (by intro e; injection e with e1; exact hgq8 e1)).trans ((World.cell?_alloc_lt _ _ _ hq_X8).trans HC8.out)
      rw [hY8]
      have HRD8 := Lib.hid hrd
      clear hY8 hrd
      go_wp2_with fail
      refine (take_any (some ⟨g8, 0, none⟩) 8 8 _ Y8 rfl (Nat.le_refl _) HRD8.out (by simp only [List.mem_cons, List.not_mem_nil, or_false]; intro y hy; rcases hy with hy | hy | hy | hy | hy | hy | hy | hy <;> omega)).mono ?_
      rw [takeV_no (xs := [192, 0, 0, 0, 0, 0, n / 256, n % 256]) (s := 8) (m := n) (show leadV 192 = 8 by decide) (by simp) (show ((((((((192 % 64) * 256 + 0) * 256 + 0) * 256 + 0) * 256 + 0) * 256 + 0) * 256 + (n / 256)) * 256 + (n % 256)) = n by omega) (by rw [hs]; decide)]
      rintro e w' ⟨rfl, rfl⟩
      clear HO8 HC8 HRD8
      go_wp2_with fail
      rw [rounds_succ]; go_wp2_with fail
      refine (wakes_any _).mono ?_
      rintro e w9 ⟨rfl, hb9⟩
      go_wp2_with fail
      go_ret
      exact ⟨rfl, hb_Y8.trans (hb9.mono hb_Y8.size)⟩
    · clear hc5 hf5 hca hfa
      obtain ⟨Y8, hY8⟩ : ∃ W, ((X8.alloc M4).setCell ⟨g8, 0, none⟩ (.int .u8 192)).drew = W := ⟨_, rfl⟩
      have hrd : Rd .u8 Y8 (some ⟨g8, 0, none⟩) [192, 0, 0, 0, 0, 0, n / 256, n % 256] := by rw [← hY8]; exact ((HO8.out.alloc _).stored rfl 0 192).rd.drew
      have hb_Y8 : Below w.heap.size w Y8 := by rw [← hY8]; exact ((hb_X8.alloc hb_X8.size _).setCell hgB8 _).drew
      have hq_Y8 : q < Y8.heap.size := by rw [← hY8]; simp only [World.size_drew, World.size_alloc, World.size_setCell]; omega
      have hc_Y8 : Y8.cell? ⟨q, 1, none⟩ = some (.int .i64 8) := by rw [← hY8]; exact (World.cell?_setCell_other _ _ _ _ (by intro e; injection e with e1; exact hgq8 e1)).trans ((World.cell?_alloc_lt _ _ _ hq_X8).trans HC8.out)
      rw [hY8]
      have HRD8 := Lib.hid hrd
      clear hY8 hrd
      go_wp2_with fail
      refine (take_any (some ⟨g8, 0, none⟩) 8 8 _ Y8 rfl (Nat.le_refl _) HRD8.out (by simp only [List.mem_cons, List.not_mem_nil, or_false]; intro y hy; rcases hy with hy | hy | hy | hy | hy | hy | hy | hy <;> omega)).mono ?_
      rw [takeV_no (xs := [192, 0, 0, 0, 0, 0, n / 256, n % 256]) (s := 8) (m := n) (show leadV 192 = 8 by decide) (by simp) (show ((((((((192 % 64) * 256 + 0) * 256 + 0) * 256 + 0) * 256 + 0) * 256 + 0) * 256 + (n / 256)) * 256 + (n % 256)) = n by omega) (by rw [hs]; decide)]
      rintro e w' ⟨rfl, rfl⟩
      clear HO8 HC8 HRD8
      go_wp2_with fail
      rw [rounds_succ]; go_wp2_with fail
      refine (wakes_any _).mono ?_
      rintro e w9 ⟨rfl, hb9⟩
      go_wp2_with fail
      go_ret
      exact ⟨rfl, hb_Y8.trans (hb9.mono hb_Y8.size)⟩
  · clear hc5 hf5 hca hfa
    obtain ⟨Y4, hY4⟩ : ∃ W, ((X4.alloc M4).setCell ⟨g4, 0, none⟩ (.int .u8 128)).drew = W := ⟨_, rfl⟩
    have hrd : Rd .u8 Y4 (some ⟨g4, 0, none⟩) [128, 0, n / 256, n % 256] := by rw [← hY4]; exact ((HO4.out.alloc _).stored rfl 0 128).rd.drew
    have hb_Y4 : Below w.heap.size w Y4 := by rw [← hY4]; exact ((hb_X4.alloc hb_X4.size _).setCell hgB4 _).drew
    have hq_Y4 : q < Y4.heap.size := by rw [← hY4]; simp only [World.size_drew, World.size_alloc, World.size_setCell]; omega
    have hc_Y4 : Y4.cell? ⟨q, 1, none⟩ = some (.int .i64 8) := by rw [← hY4]; exact (World.cell?_setCell_other _ _ _ _ (by intro e; injection e with e1; exact hgq4 e1)).trans ((World.cell?_alloc_lt _ _ _ hq_X4).trans HC4.out)
    rw [hY4]
    have HRD4 := Lib.hid hrd
    clear hY4 hrd
    go_wp2_with fail
    refine (take_any (some ⟨g4, 0, none⟩) 4 4 _ Y4 rfl (Nat.le_refl _) HRD4.out (by simp only [List.mem_cons, List.not_mem_nil, or_false]; intro y hy; rcases hy with hy | hy | hy | hy <;> omega)).mono ?_
    rw [takeV_no (xs := [128, 0, n / 256, n % 256]) (s := 4) (m := n) (show leadV 128 = 4 by decide) (by simp) (show ((((128 % 64) * 256 + 0) * 256 + (n / 256)) * 256 + (n % 256)) = n by omega) (by rw [hs]; decide)]
    rintro e w' ⟨rfl, rfl⟩
    clear HO4 HC4 HRD4
    go_wp2_with fail
    rw [rounds_succ]; go_wp2_with fail
    refine wp_loop_rounds 3 ?_
    (rw [rounds_succ]; go_wp2_with fail)
    (rw [rounds_succ]; go_wp2_with fail)
    (rw [rounds_succ]; go_wp2_with fail)
    obtain ⟨X8, hX8⟩ : ∃ W, (Y4).alloc (.cells #[.int .u8 (0), .int .u8 (0), .int .u8 (0), .int .u8 (0), .int .u8 (0), .int .u8 (0), .int .u8 (n / 256), .int .u8 (n % 256)] 5) = W := ⟨_, rfl⟩
    obtain ⟨g8, hg8⟩ : ∃ g, (Y4).heap.size = g := ⟨_, rfl⟩
    have hoX8 : Own .u8 5 X8 w.heap.size (.slice (some ⟨g8, 0, none⟩) 8 8) [0, 0, 0, 0, 0, 0, n / 256, n % 256] := by rw [← hX8, ← hg8]; exact (Own.new (Y4) [0, 0, 0, 0, 0, 0, n / 256, n % 256] 5 (by simp [maxLen])).less hb_Y4.size
    have hb_X8 : Below w.heap.size w X8 := by rw [← hX8]; exact hb_Y4.alloc hb_Y4.size _
    have hc_X8 : X8.cell? ⟨q, 1, none⟩ = some (.int .i64 8) := by rw [← hX8, World.cell?_alloc_lt _ _ _ hq_Y4]; exact hc_Y4
    have hq_X8 : q < X8.heap.size := by rw [← hX8, World.size_alloc]; omega
    have hglX8 : g8 < X8.heap.size := by rw [← hX8, World.size_alloc]; omega
    have hc5 : X8.cell? ⟨g8, 0, none⟩ = some (.int .u8 0) := by obtain ⟨gg, e, _, _, _, hcc, _⟩ := hoX8.block (by omega); injection e with e; injection e with e _ _; subst e; exact hcc 0 (by omega)
    have hf5 : X8.frozen? ⟨g8, 0, none⟩ = false := by obtain ⟨gg, e, _, _, _, _, hff⟩ := hoX8.block (by omega); injection e with e; injection e with e _ _; subst e; exact hff 0
    have hgq8 : g8 ≠ q := by rw [← hg8]; omega
    have hgB8 : w.heap.size ≤ g8 := by rw [← hg8]; exact hb_Y4.size
    rw [hX8, hg8]
    have hca : ∀ o, (X8.alloc o).cell? ⟨g8, 0, none⟩ = some (.int .u8 0) := fun o => by rw [World.cell?_alloc_lt _ _ _ hglX8]; exact hc5
    have hfa : ∀ o, (X8.alloc o).frozen? ⟨g8, 0, none⟩ = false := fun o => by rw [World.frozen?_alloc_past _ _ _ hglX8]; exact hf5
    have HO8 := Lib.hid hoX8
    have HC8 := Lib.hid hc_X8
    clear hX8 hg8 hoX8 hc_X8 hc_Y4 hglX8
    go_region
    · clear hc5 hf5 hca hfa
      obtain ⟨Y8, hY8⟩ : ∃ W, ((X8.alloc M2).setCell ⟨g8, 0, none⟩ (.int .u8 192)).drew = W := ⟨_, rfl⟩
      have hrd : Rd .u8 Y8 (some ⟨g8, 0, none⟩) [192, 0, 0, 0, 0, 0, n / 256, n % 256] := by rw [← hY8]; exact ((HO8.out.alloc _).stored rfl 0 192).rd.drew
      have hb_Y8 : Below w.heap.size w Y8 := by rw [← hY8]; exact ((hb_X8.alloc hb_X8.size _).setCell hgB8 _).drew
      have hq_Y8 : q < Y8.heap.size := by rw [← hY8]; simp only [World.size_drew, World.size_alloc, World.size_setCell]; omega
      have hc_Y8 : Y8.cell? ⟨q, 1, none⟩ = some (.int .i64 8) := by rw [← hY8]; exact (World.cell?_setCell_other _ _ _ _ (by intro e; injection e with e1; exact hgq8 e1)).trans ((World.cell?_alloc_lt _ _ _ hq_X8).trans HC8.out)
      rw [hY8]
      have HRD8 := Lib.hid hrd
      clear hY8 hrd
      go_wp2_with fail
      refine (take_any (some ⟨g8, 0, none⟩) 8 8 _ Y8 rfl (Nat.le_refl _) HRD8.out (by simp only [List.mem_cons, List.not_mem_nil, or_false]; intro y hy; rcases hy with hy | hy | hy | hy | hy | hy | hy | hy <;> omega)).mono ?_
      rw [takeV_no (xs := [192, 0, 0, 0, 0, 0, n / 256, n % 256]) (s := 8) (m := n) (show leadV 192 = 8 by decide) (by simp) (show ((((((((192 % 64) * 256 + 0) * 256 + 0) * 256 + 0) * 256 + 0) * 256 + 0) * 256 + (n / 256)) * 256 + (n % 256)) = n by omega) (by rw [hs]; decide)]
      rintro e w' ⟨rfl, rfl⟩
      clear HO8 HC8 HRD8
      go_wp2_with fail
      rw [rounds_succ]; go_wp2_with fail
      refine (wakes_any _).mono ?_
      rintro e w9 ⟨rfl, hb9⟩
      go_wp2_with fail
      go_ret
      exact ⟨rfl, hb_Y8.trans (hb9.mono hb_Y8.size)⟩
    · clear hc5 hf5 hca hfa
      obtain ⟨Y8, hY8⟩ : ∃ W, ((X8.alloc M4).setCell ⟨g8, 0, none⟩ (.int .u8 192)).drew = W := ⟨_, rfl⟩
      have hrd : Rd .u8 Y8 (some ⟨g8, 0, none⟩) [192, 0, 0, 0, 0, 0, n / 256, n % 256] := by rw [← hY8]; exact ((HO8.out.alloc _).stored rfl 0 192).rd.drew
      have hb_Y8 : Below w.heap.size w Y8 := by rw [← hY8]; exact ((hb_X8.alloc hb_X8.size _).setCell hgB8 _).drew
      have hq_Y8 : q < Y8.heap.size := by rw [← hY8]; simp only [World.size_drew, World.size_alloc, World.size_setCell]; omega
      have hc_Y8 : Y8.cell? ⟨q, 1, none⟩ = some (.int .i64 8) := by rw [← hY8]; exact (World.cell?_setCell_other _ _ _ _ (by intro e; injection e with e1; exact hgq8 e1)).trans ((World.cell?_alloc_lt _ _ _ hq_X8).trans HC8.out)
      rw [hY8]
      have HRD8 := Lib.hid hrd
      clear hY8 hrd
      go_wp2_with fail
      refine (take_any (some ⟨g8, 0, none⟩) 8 8 _ Y8 rfl (Nat.le_refl _) HRD8.out (by simp only [List.mem_cons, List.not_mem_nil, or_false]; intro y hy; rcases hy with hy | hy | hy | hy | hy | hy | hy | hy <;> omega)).mono ?_
      rw [takeV_no (xs := [192, 0, 0, 0, 0, 0, n / 256, n % 256]) (s := 8) (m := n) (show leadV 192 = 8 by decide) (by simp) (show ((((((((192 % 64) * 256 + 0) * 256 + 0) * 256 + 0) * 256 + 0) * 256 + 0) * 256 + (n / 256)) * 256 + (n % 256)) = n by omega) (by rw [hs]; decide)]
      rintro e w' ⟨rfl, rfl⟩
      clear HO8 HC8 HRD8
      go_wp2_with fail
      rw [rounds_succ]; go_wp2_with fail
      refine (wakes_any _).mono ?_
      rintro e w9 ⟨rfl, hb9⟩
      go_wp2_with fail
      go_ret
      exact ⟨rfl, hb_Y8.trans (hb9.mono hb_Y8.size)⟩

set_option maxRecDepth 100000 in
set_option maxHeartbeats 2000000 in
theorem vintBack_4 (a0 a1 c cut : Int) (w : World) (hcb : 0 ≤ c ∧ c < 256) (n : Int) (h1 : 16384 ≤ n) (h2 : n < 1073741824) (hN : Calls Try.prog 9 #[.int .i64 a0, .int .i64 a1] w (IntIs n w)) :
    Calls Try.prog 6 #[.int .i64 a0, .int .i64 a1, .int .u8 c, .int .i64 cut] w fun e w' => e = .returned (.bool true) ∧ Below w.heap.size w w' := by
  have hmk4 : ∀ w, (Instr.makeSlice 24 (.int .i64 4) (.int .i64 4)).run Try.prog w = .ok (.slice (some ⟨w.heap.size, 0, none⟩) 4 4) (w.alloc (.cells #[.int .u8 0, .int .u8 0, .int .u8 0, .int .u8 0] 5)) := fun _ => by kernel_rfl
  have hmk8 : ∀ w, (Instr.makeSlice 24 (.int .i64 8) (.int .i64 8)).run Try.prog w = .ok (.slice (some ⟨w.heap.size, 0, none⟩) 8 8) (w.alloc (.cells #[.int .u8 0, .int .u8 0, .int .u8 0, .int .u8 0, .int .u8 0, .int .u8 0, .int .u8 0, .int .u8 0] 5)) := fun _ => by kernel_rfl
  have hm0 := mk_map
  have hm1 : ∀ w : World, (Instr.mapUpdate 37 (.map (some w.heap.size)) (.int .i64 4) (.int .i64 2)).run Try.prog ((w.alloc M0).drew) = .ok () ((w.alloc M1).drew) := fun w => ins4 w.drew
  have hm2 : ∀ w : World, (Instr.mapUpdate 37 (.map (some w.heap.size)) (.int .i64 8) (.int .i64 3)).run Try.prog ((w.alloc M1).drew) = .ok () ((w.alloc M2).drew) := fun w => ins8 w.drew
  have hm3 : ∀ w : World, (Instr.lookup 37 (.map (some w.heap.size)) (.int .i64 4) false).run Try.prog ((w.alloc M2).drew) = .ok (.int .i64 2) ((w.alloc M2).drew) := fun w => look4 w.drew
  have hm4 : ∀ w : World, (Instr.lookup 37 (.map (some w.heap.size)) (.int .i64 8) false).run Try.prog ((w.alloc M2).drew) = .ok (.int .i64 3) ((w.alloc M2).drew) := fun w => look8 w.drew
  have hn1 : ∀ w : World, (Instr.mapUpdate 37 (.map (some w.heap.size)) (.int .i64 8) (.int .i64 3)).run Try.prog ((w.alloc M0).drew) = .ok () ((w.alloc M3).drew) := fun w => ins8' w.drew
  have hn2 : ∀ w : World, (Instr.mapUpdate 37 (.map (some w.heap.size)) (.int .i64 4) (.int .i64 2)).run Try.prog ((w.alloc M3).drew) = .ok () ((w.alloc M4).drew) := fun w => ins4' w.drew
  have hn3 : ∀ w : World, (Instr.lookup 37 (.map (some w.heap.size)) (.int .i64 4) false).run Try.prog ((w.alloc M4).drew) = .ok (.int .i64 2) ((w.alloc M4).drew) := fun w => look4' w.drew
  have hn4 : ∀ w : World, (Instr.lookup 37 (.map (some w.heap.size)) (.int .i64 8) false).run Try.prog ((w.alloc M4).drew) = .ok (.int .i64 3) ((w.alloc M4).drew) := fun w => look8' w.drew
  have ho4 : bits .or .u8 0 128 = 128 := by decide
  have ho8 : bits .or .u8 0 192 = 192 := by decide
  have HN := Lib.hid hN
  clear hN
  go_enter Try.func6, Try.ntmps6
  go_wp2_with fail
  refine (HN.out).mono ?_
  rintro e w1 ⟨rfl, hb1⟩
  clear HN
  have hs := szV_4 h1 h2
  have hls : (putL n).length = 4 := by rw [putL_4 h1 h2]; rfl
  have HLS := Lib.hid hls
  clear hls
  go_wp2_with fail
  refine (put_own n w1).mono ?_
  rintro e w2 ⟨Pp, cp, rfl, hp, hb2⟩
  rw [HLS.out] at hp ⊢
  have hcp := hp.cap
  have hbb : Below w.heap.size w w2 := hb1.trans (hb2.mono hb1.size)
  clear hb1 hb2
  go_wp2_with (go_at_call 12; refine (size_any _ _).mono ?_; rintro e w' ⟨rfl, rfl⟩)
  refine (copy_any Pp 4 cp (putL n) w2 HLS.out hp.rd (by omega)).mono ?_
  rintro e w3 ⟨C, cc, rfl, hc, hb3⟩
  rw [← HLS.out] at hc
  go_wp2_with (at_builtin; refine wpList_app _ .u8 rfl (.tmp 73) (.tmp 75) 24 rfl 5 (.int .u8 0) 1 Try.underlying24 info_byte rfl w2.heap.size (.slice C 4 cc) (putL n) rfl ((show Own .u8 5 w3 w2.heap.size (.slice C 4 cc) (putL n) from by rw [HLS.out] at hc; exact hc).alloc _) _ _ _ rfl [c] rfl (rd_one _ _ _ _) (by rw [HLS.out]; simp [maxLen]) (by rw [HLS.out]; simp) (by have := hb3.size; simp only [World.size_alloc]; omega) ?_; intro D dd w4 hd hg4)
  rw [HLS.out] at hd hc ⊢
  have hb4 : Below w2.heap.size w2 w4 := (hb3.alloc hb3.size _).grown hg4 (by have := hb3.size; simp only [World.size_alloc]; omega) (fun g hg => (hc.lt g hg).1)
  have hpr : Rd .u8 w4 Pp (putL n) := hp.rd.later hb4
  have hbb4 := hbb.trans (hb4.mono hbb.size)
  have HTV := Lib.hid (takeV_putL (x := n) (by omega) (by omega) [c])
  clear hg4 hb3 hb4 hbb hc hp
  refine (take_any D (4 + 1) dd (putL n ++ [c]) w4 (by rw [List.length_append, HLS.out]; rfl) hd.cap hd.rd (fun y hy => by
    rcases List.mem_append.1 hy with hy | hy
    · exact putL_bytes n y hy
    · rw [List.mem_singleton.1 hy]; exact hcb)).mono ?_
  rw [HTV.out, HLS.out]
  rintro e w' ⟨rfl, rfl⟩
  clear hd
  go_wp2_with fail
  refine (within_any cut 4 w4 (by omega) (by omega)).mono ?_
  rintro e w' ⟨rfl, rfl⟩
  obtain ⟨j, hj⟩ : ∃ j : Nat, cut % 4 = (j : Int) := ⟨(cut % 4).toNat, by omega⟩
  have hj1 : (j : Int) < 4 := by omega
  have hj2 : (0 : Int) ≤ (j : Int) := by omega
  have hj3 : (j : Int) ≤ (cp : Int) := by omega
  rw [hj]
  have HTC := Lib.hid (takeV_cut (x := n) (by omega) (by omega) (j := j) (by rw [HLS.out]; omega))
  clear hj
  go_wp2_with fail
  refine (take_any Pp j cp ((putL n).take j) w4 (by rw [List.length_take, HLS.out]; omega) (by omega) (hpr.take j) (fun y hy => putL_bytes n y (List.mem_of_mem_take hy))).mono ?_
  rw [HTC.out]
  rintro e w' ⟨rfl, rfl⟩
  clear hj1 hj2 hj3
  go_wp2_with fail
  refine wp_loop_rounds 3 ?_
  obtain ⟨W0, hW0⟩ : ∃ W, w4.alloc (.cells #[.int .i64 4, .int .i64 8] 3) = W := ⟨_, rfl⟩
  obtain ⟨q, hqq⟩ : ∃ q, w4.heap.size = q := ⟨_, rfl⟩
  have hb_W0 : Below w.heap.size w W0 := by rw [← hW0]; exact hbb4.alloc hbb4.size _
  have hq_W0 : q < W0.heap.size := by rw [← hW0, World.size_alloc]; omega
  have hc0 : W0.cell? ⟨q, 0, none⟩ = some (.int .i64 4) := by rw [← hW0, ← hqq]; clear hW0 hqq hm0 hm1 hm2 hm3 hm4 hn1 hn2 hn3 hn4 hmk4 hmk8; go_simp
  have hc_W0 : W0.cell? ⟨q, 1, none⟩ = some (.int .i64 8) := by rw [← hW0, ← hqq]; clear hW0 hqq hm0 hm1 hm2 hm3 hm4 hn1 hn2 hn3 hn4 hmk4 hmk8; go_simp
  rw [hW0, hqq]
  clear hW0 hqq hpr hbb4
  rw [rounds_succ]; go_wp2_with fail
  refine wp_loop_rounds 5 ?_
  (rw [rounds_succ]; go_wp2_with fail)
  (rw [rounds_succ]; go_wp2_with fail)
  (rw [rounds_succ]; go_wp2_with fail)
  (rw [rounds_succ]; go_wp2_with fail)
  (rw [rounds_succ]; go_wp2_with fail)
  obtain ⟨W4, hW4⟩ : ∃ W, W0.alloc (.cells #[.int .u8 (n / 16777216), .int .u8 (n / 65536 % 256), .int .u8 (n / 256 % 256), .int .u8 (n % 256)] 5) = W := ⟨_, rfl⟩
  have hb_W4 : Below w.heap.size w W4 := by rw [← hW4]; exact hb_W0.alloc hb_W0.size _
  have hq_W4 : q < W4.heap.size := by rw [← hW4, World.size_alloc]; omega
  have hc_W4 : W4.cell? ⟨q, 1, none⟩ = some (.int .i64 8) := by rw [← hW4, World.cell?_alloc_lt _ _ _ hq_W0]; exact hc_W0
  rw [hW4]
  clear hW4 hc0 hc_W0
  rw [rounds_succ]; go_wp2_with fail
  refine wp_loop_rounds 5 ?_
  (rw [rounds_succ]; go_wp2_with fail)
  (rw [rounds_succ]; go_wp2_with fail)
  (rw [rounds_succ]; go_wp2_with fail)
  (rw [rounds_succ]; go_wp2_with fail)
  (rw [rounds_succ]; go_wp2_with fail)
  obtain ⟨X8, hX8⟩ : ∃ W, (W4).alloc (.cells #[.int .u8 (0), .int .u8 (0), .int .u8 (0), .int .u8 (0), .int .u8 (n / 16777216), .int .u8 (n / 65536 % 256), .int .u8 (n / 256 % 256), .int .u8 (n % 256)] 5) = W := ⟨_, rfl⟩
  obtain ⟨g8, hg8⟩ : ∃ g, (W4).heap.size = g := ⟨_, rfl⟩
  have hoX8 : Own .u8 5 X8 w.heap.size (.slice (some ⟨g8, 0, none⟩) 8 8) [0, 0, 0, 0, n / 16777216, n / 65536 % 256, n / 256 % 256, n % 256] := by rw [← hX8, ← hg8]; exact (Own.new (W4) [0, 0, 0, 0, n / 16777216, n / 65536 % 256, n / 256 % 256, n % 256] 5 (by simp [maxLen])).less hb_W4.size
  have hb_X8 : Below w.heap.size w X8 := by rw [← hX8]; exact hb_W4.alloc hb_W4.size _
  have hc_X8 : X8.cell? ⟨q, 1, none⟩ = some (.int .i64 8) := by rw [← hX8, World.cell?_alloc_lt _ _ _ hq_W4]; exact hc_W4
  have hq_X8 : q < X8.heap.size := by rw [← hX8, World.size_alloc]; omega
  have hglX8 : g8 < X8.heap.size := by rw [← hX8, World.size_alloc]; omega
  have hc5 : X8.cell? ⟨g8, 0, none⟩ = some (.int .u8 0) := by obtain ⟨gg, e, _, _, _, hcc, _⟩ := hoX8.block (by omega); injection e with e; injection e with e _ _; subst e; exact hcc 0 (by omega)
  have hf5 : X8.frozen? ⟨g8, 0, none⟩ = false := by obtain ⟨gg, e, _, _, _, _, hff⟩ := hoX8.block (by omega); injection e with e; injection e with e _ _; subst e; exact hff 0
  have hgq8 : g8 ≠ q := by rw [← hg8]; omega
  have hgB8 : w.heap.size ≤ g8 := by rw [← hg8]; exact hb_W4.size
  rw [hX8, hg8]
  have hca : ∀ o, (X8.alloc o).cell? ⟨g8, 0, none⟩ = some (.int .u8 0) := fun o => by rw [World.cell?_alloc_lt _ _ _ hglX8]; exact hc5
  have hfa : ∀ o, (X8.alloc o).frozen? ⟨g8, 0, none⟩ = false := fun o => by rw [World.frozen?_alloc_past _ _ _ hglX8]; exact hf5
  have HO8 := Lib.hid hoX8
  have HC8 := Lib.hid hc_X8
  clear hX8 hg8 hoX8 hc_X8 hc_W4 hglX8
  go_region
  · clear hc5 hf5 hca hfa
    obtain ⟨Y8, hY8⟩ : ∃ W, ((X8.alloc M2).setCell ⟨g8, 0, none⟩ (.int .u8 192)).drew = W := ⟨_, rfl⟩
    have hrd : Rd .u8 Y8 (some ⟨g8, 0, none⟩) [192, 0, 0, 0, n / 16777216, n / 65536 % 256, n / 256 % 256, n % 256] := by rw [← hY8]; exact ((HO8.out.alloc _).stored rfl 0 192).rd.drew
    have hb_Y8 : Below w.heap.size w Y8 := by rw [← hY8]; exact ((hb_X8.alloc hb_X8.size _).setCell hgB8 _).drew
    have hq_Y8 : q < Y8.heap.size := by rw [← hY8]; simp only [World.size_drew, World.size_alloc, World.size_setCell]; omega
    have hc_Y8 : Y8.cell? ⟨q, 1, none⟩ = some (.int .i64 8) := by rw [← hY8]; exact (World.cell?_setCell_other _ _ _ _ (by intro e; injection e with e1; exact hgq8 e1)).trans ((World.cell?_alloc_lt _ _ _ hq_X8).trans HC8.out)
    rw [hY8]
    have HRD8 := Lib.hid hrd
    clear hY8 hrd
    go_wp2_with fail
    refine (take_any (some ⟨g8, 0, none⟩) 8 8 _ Y8 rfl (Nat.le_refl _) HRD8.out (by simp only [List.mem_cons, List.not_mem_nil, or_false]; intro y hy; rcases hy with hy | hy | hy | hy | hy | hy | hy | hy <;> omega)).mono ?_
    rw [takeV_no (xs := [192, 0, 0, 0, n / 16777216, n / 65536 % 256, n / 256 % 256, n % 256]) (s := 8) (m := n) (show leadV 192 = 8 by decide) (by simp) (show ((((((((192 % 64) * 256 + 0) * 256 + 0) * 256 + 0) * 256 + (n / 16777216)) * 256 + (n / 65536 % 256)) * 256 + (n / 256 % 256)) * 256 + (n % 256)) = n by omega) (by rw [hs]; decide)]
    rintro e w' ⟨rfl, rfl⟩
    clear HO8 HC8 HRD8
    go_wp2_with fail
    rw [rounds_succ]; go_wp2_with fail
    refine (wakes_any _).mono ?_
    rintro e w9 ⟨rfl, hb9⟩
    go_wp2_with fail
    go_ret
    exact ⟨rfl, hb_Y8.trans (hb9.mono hb_Y8.size)⟩
  · clear hc5 hf5 hca hfa
    obtain ⟨Y8, hY8⟩ : ∃ W, ((X8.alloc M4).setCell ⟨g8, 0, none⟩ (.int .u8 192)).drew = W := ⟨_, rfl⟩
    have hrd : Rd .u8 Y8 (some ⟨g8, 0, none⟩) [192, 0, 0, 0, n / 16777216, n / 65536 % 256, n / 256 % 256, n % 256] := by rw [← hY8]; exact ((HO8.out.alloc _).stored rfl 0 192).rd.drew
    have hb_Y8 : Below w.heap.size w Y8 := by rw [← hY8]; exact ((hb_X8.alloc hb_X8.size _).setCell hgB8 _).drew
    have hq_Y8 : q < Y8.heap.size := by rw [← hY8]; simp only [World.size_drew, World.size_alloc, World.size_setCell]; omega
    have hc_Y8 : Y8.cell? ⟨q, 1, none⟩ = some (.int .i64 8) := by rw [← hY8]; exact (World.cell?_setCell_other _ _ _ _ (by intro e; injection e with e1; exact hgq8 e1)).trans ((World.cell?_alloc_lt _ _ _ hq_X8).trans HC8.out)
    rw [hY8]
    have HRD8 := Lib.hid hrd
    clear hY8 hrd
    go_wp2_with fail
    refine (take_any (some ⟨g8, 0, none⟩) 8 8 _ Y8 rfl (Nat.le_refl _) HRD8.out (by simp only [List.mem_cons, List.not_mem_nil, or_false]; intro y hy; rcases hy with hy | hy | hy | hy | hy | hy | hy | hy <;> omega)).mono ?_
    rw [takeV_no (xs := [192, 0, 0, 0, n / 16777216, n / 65536 % 256, n / 256 % 256, n % 256]) (s := 8) (m := n) (show leadV 192 = 8 by decide) (by simp) (show ((((((((192 % 64) * 256 + 0) * 256 + 0) * 256 + 0) * 256 + (n / 16777216)) * 256 + (n / 65536 % 256)) * 256 + (n / 256 % 256)) * 256 + (n % 256)) = n by omega) (by rw [hs]; decide)]
    rintro e w' ⟨rfl, rfl⟩
    clear HO8 HC8 HRD8
    go_wp2_with fail
    rw [rounds_succ]; go_wp2_with fail
    refine (wakes_any _).mono ?_
    rintro e w9 ⟨rfl, hb9⟩
    go_wp2_with fail
    go_ret
    exact ⟨rfl, hb_Y8.trans (hb9.mono hb_Y8.size)⟩

set_option maxRecDepth 100000 in
set_option maxHeartbeats 2000000 in
theorem vintBack_8 (a0 a1 c cut : Int) (w : World) (hcb : 0 ≤ c ∧ c < 256) (n : Int) (h1 : 1073741824 ≤ n) (h2 : n ≤ 4611686018427387903) (hN : Calls Try.prog 9 #[.int .i64 a0, .int .i64 a1] w (IntIs n w)) :
    Calls Try.prog 6 #[.int .i64 a0, .int .i64 a1, .int .u8 c, .int .i64 cut] w fun e w' => e = .returned (.bool true) ∧ Below w.heap.size w w' := by
  have hmk4 : ∀ w, (Instr.makeSlice 24 (.int .i64 4) (.int .i64 4)).run Try.prog w = .ok (.slice (some ⟨w.heap.size, 0, none⟩) 4 4) (w.alloc (.cells #[.int .u8 0, .int .u8 0, .int .u8 0, .int .u8 0] 5)) := fun _ => by kernel_rfl
  have hmk8 : ∀ w, (Instr.makeSlice 24 (.int .i64 8) (.int .i64 8)).run Try.prog w = .ok (.slice (some ⟨w.heap.size, 0, none⟩) 8 8) (w.alloc (.cells #[.int .u8 0, .int .u8 0, .int .u8 0, .int .u8 0, .int .u8 0, .int .u8 0, .int .u8 0, .int .u8 0] 5)) := fun _ => by kernel_rfl
  have hm0 := mk_map
  have hm1 : ∀ w : World, (Instr.mapUpdate 37 (.map (some w.heap.size)) (.int .i64 4) (.int .i64 2)).run Try.prog ((w.alloc M0).drew) = .ok () ((w.alloc M1).drew) := fun w => ins4 w.drew
  have hm2 : ∀ w : World, (Instr.mapUpdate 37 (.map (some w.heap.size)) (.int .i64 8) (.int .i64 3)).run Try.prog ((w.alloc M1).drew) = .ok () ((w.alloc M2).drew) := fun w => ins8 w.drew
  have hm3 : ∀ w : World, (Instr.lookup 37 (.map (some w.heap.size)) (.int .i64 4) false).run Try.prog ((w.alloc M2).drew) = .ok (.int .i64 2) ((w.alloc M2).drew) := fun w => look4 w.drew
  have hm4 : ∀ w : World, (Instr.lookup 37 (.map (some w.heap.size)) (.int .i64 8) false).run Try.prog ((w.alloc M2).drew) = .ok (.int .i64 3) ((w.alloc M2).drew) := fun w => look8 w.drew
  have hn1 : ∀ w : World, (Instr.mapUpdate 37 (.map (some w.heap.size)) (.int .i64 8) (.int .i64 3)).run Try.prog ((w.alloc M0).drew) = .ok () ((w.alloc M3).drew) := fun w => ins8' w.drew
  have hn2 : ∀ w : World, (Instr.mapUpdate 37 (.map (some w.heap.size)) (.int .i64 4) (.int .i64 2)).run Try.prog ((w.alloc M3).drew) = .ok () ((w.alloc M4).drew) := fun w => ins4' w.drew
  have hn3 : ∀ w : World, (Instr.lookup 37 (.map (some w.heap.size)) (.int .i64 4) false).run Try.prog ((w.alloc M4).drew) = .ok (.int .i64 2) ((w.alloc M4).drew) := fun w => look4' w.drew
  have hn4 : ∀ w : World, (Instr.lookup 37 (.map (some w.heap.size)) (.int .i64 8) false).run Try.prog ((w.alloc M4).drew) = .ok (.int .i64 3) ((w.alloc M4).drew) := fun w => look8' w.drew
  have ho4 : bits .or .u8 0 128 = 128 := by decide
  have ho8 : bits .or .u8 0 192 = 192 := by decide
  have HN := Lib.hid hN
  clear hN
  go_enter Try.func6, Try.ntmps6
  go_wp2_with fail
  refine (HN.out).mono ?_
  rintro e w1 ⟨rfl, hb1⟩
  clear HN
  have hs := szV_8 h1 h2
  have hls : (putL n).length = 8 := by rw [putL_8 h1 h2]; rfl
  have HLS := Lib.hid hls
  clear hls
  go_wp2_with fail
  refine (put_own n w1).mono ?_
  rintro e w2 ⟨Pp, cp, rfl, hp, hb2⟩
  rw [HLS.out] at hp ⊢
  have hcp := hp.cap
  have hbb : Below w.heap.size w w2 := hb1.trans (hb2.mono hb1.size)
  clear hb1 hb2
  go_wp2_with (go_at_call 12; refine (size_any _ _).mono ?_; rintro e w' ⟨rfl, rfl⟩)
  refine (copy_any Pp 8 cp (putL n) w2 HLS.out hp.rd (by omega)).mono ?_
  rintro e w3 ⟨C, cc, rfl, hc, hb3⟩
  rw [← HLS.out] at hc
  go_wp2_with (at_builtin; refine wpList_app _ .u8 rfl (.tmp 73) (.tmp 75) 24 rfl 5 (.int .u8 0) 1 Try.underlying24 info_byte rfl w2.heap.size (.slice C 8 cc) (putL n) rfl ((show Own .u8 5 w3 w2.heap.size (.slice C 8 cc) (putL n) from by rw [HLS.out] at hc; exact hc).alloc _) _ _ _ rfl [c] rfl (rd_one _ _ _ _) (by rw [HLS.out]; simp [maxLen]) (by rw [HLS.out]; simp) (by have := hb3.size; simp only [World.size_alloc]; omega) ?_; intro D dd w4 hd hg4)
  rw [HLS.out] at hd hc ⊢
  have hb4 : Below w2.heap.size w2 w4 := (hb3.alloc hb3.size _).grown hg4 (by have := hb3.size; simp only [World.size_alloc]; omega) (fun g hg => (hc.lt g hg).1)
  have hpr : Rd .u8 w4 Pp (putL n) := hp.rd.later hb4
  have hbb4 := hbb.trans (hb4.mono hbb.size)
  have HTV := Lib.hid (takeV_putL (x := n) (by omega) (by omega) [c])
  clear hg4 hb3 hb4 hbb hc hp
  refine (take_any D (8 + 1) dd (putL n ++ [c]) w4 (by rw [List.length_append, HLS.out]; rfl) hd.cap hd.rd (fun y hy => by
    rcases List.mem_append.1 hy with hy | hy
    · exact putL_bytes n y hy
    · rw [List.mem_singleton.1 hy]; exact hcb)).mono ?_
  rw [HTV.out, HLS.out]
  rintro e w' ⟨rfl, rfl⟩
  clear hd
  go_wp2_with fail
  refine (within_any cut 8 w4 (by omega) (by omega)).mono ?_
  rintro e w' ⟨rfl, rfl⟩
  obtain ⟨j, hj⟩ : ∃ j : Nat, cut % 8 = (j : Int) := ⟨(cut % 8).toNat, by omega⟩
  have hj1 : (j : Int) < 8 := by omega
  have hj2 : (0 : Int) ≤ (j : Int) := by omega
  have hj3 : (j : Int) ≤ (cp : Int) := by omega
  rw [hj]
  have HTC := Lib.hid (takeV_cut (x := n) (by omega) (by omega) (j := j) (by rw [HLS.out]; omega))
  clear hj
  go_wp2_with fail
  refine (take_any Pp j cp ((putL n).take j) w4 (by rw [List.length_take, HLS.out]; omega) (by omega) (hpr.take j) (fun y hy => putL_bytes n y (List.mem_of_mem_take hy))).mono ?_
  rw [HTC.out]
  rintro e w' ⟨rfl, rfl⟩
  clear hj1 hj2 hj3
  go_wp2_with fail
  refine wp_loop_rounds 3 ?_
  obtain ⟨W0, hW0⟩ : ∃ W, w4.alloc (.cells #[.int .i64 4, .int .i64 8] 3) = W := ⟨_, rfl⟩
  obtain ⟨q, hqq⟩ : ∃ q, w4.heap.size = q := ⟨_, rfl⟩
  have hb_W0 : Below w.heap.size w W0 := by rw [← hW0]; exact hbb4.alloc hbb4.size _
  have hq_W0 : q < W0.heap.size := by rw [← hW0, World.size_alloc]; omega
  have hc0 : W0.cell? ⟨q, 0, none⟩ = some (.int .i64 4) := by rw [← hW0, ← hqq]; clear hW0 hqq hm0 hm1 hm2 hm3 hm4 hn1 hn2 hn3 hn4 hmk4 hmk8; go_simp
  have hc_W0 : W0.cell? ⟨q, 1, none⟩ = some (.int .i64 8) := by rw [← hW0, ← hqq]; clear hW0 hqq hm0 hm1 hm2 hm3 hm4 hn1 hn2 hn3 hn4 hmk4 hmk8; go_simp
  rw [hW0, hqq]
  clear hW0 hqq hpr hbb4
  rw [rounds_succ]; go_wp2_with fail
  refine wp_loop_rounds 5 ?_
  (rw [rounds_succ]; go_wp2_with fail)
  (rw [rounds_succ]; go_wp2_with fail)
  (rw [rounds_succ]; go_wp2_with fail)
  (rw [rounds_succ]; go_wp2_with fail)
  (rw [rounds_succ]; go_wp2_with fail)
  obtain ⟨W4, hW4⟩ : ∃ W, W0.alloc (.cells #[.int .u8 (n / 16777216 % 256), .int .u8 (n / 65536 % 256), .int .u8 (n / 256 % 256), .int .u8 (n % 256)] 5) = W := ⟨_, rfl⟩
  have hb_W4 : Below w.heap.size w W4 := by rw [← hW4]; exact hb_W0.alloc hb_W0.size _
  have hq_W4 : q < W4.heap.size := by rw [← hW4, World.size_alloc]; omega
  have hc_W4 : W4.cell? ⟨q, 1, none⟩ = some (.int .i64 8) := by rw [← hW4, World.cell?_alloc_lt _ _ _ hq_W0]; exact hc_W0
  rw [hW4]
  clear hW4 hc0 hc_W0
  rw [rounds_succ]; go_wp2_with fail
  refine wp_loop_rounds 9 ?_
  (rw [rounds_succ]; go_wp2_with fail)
  (rw [rounds_succ]; go_wp2_with fail)
  (rw [rounds_succ]; go_wp2_with fail)
  (rw [rounds_succ]; go_wp2_with fail)
  (rw [rounds_succ]; go_wp2_with fail)
  (rw [rounds_succ]; go_wp2_with fail)
  (rw [rounds_succ]; go_wp2_with fail)
  (rw [rounds_succ]; go_wp2_with fail)
  (rw [rounds_succ]; go_wp2_with fail)
  have hb_W8 : Below w.heap.size w (W4.alloc (.cells #[.int .u8 (n / 72057594037927936), .int .u8 (n / 281474976710656 % 256), .int .u8 (n / 1099511627776 % 256), .int .u8 (n / 4294967296 % 256), .int .u8 (n / 16777216 % 256), .int .u8 (n / 65536 % 256), .int .u8 (n / 256 % 256), .int .u8 (n % 256)] 5)) := hb_W4.alloc hb_W4.size _
  rw [rounds_succ]; go_wp2_with fail
  refine (wakes_any _).mono ?_
  rintro e w9 ⟨rfl, hb9⟩
  go_wp2_with fail
  go_ret
  exact ⟨rfl, hb_W8.trans (hb9.mono hb_W8.size)⟩

set_option maxRecDepth 100000 in
set_option maxHeartbeats 400000 in
theorem vintBack_no (a0 a1 c cut : Int) (w : World) (n : Int) (h : n < 0 ∨ 4611686018427387903 < n) (hN : Calls Try.prog 9 #[.int .i64 a0, .int .i64 a1] w (IntIs n w)) :
    Calls Try.prog 6 #[.int .i64 a0, .int .i64 a1, .int .u8 c, .int .i64 cut] w fun e w' => e = .returned (.bool true) ∧ Below w.heap.size w w' := by
  have hs : szV n = 0 := by rcases h with h | h; exact szV_neg h; exact szV_big h
  have HN := Lib.hid hN
  have HS := Lib.hid hs
  have HH := Lib.hid h
  clear hN hs
  rcases (show n < 0 ∨ (0 ≤ n ∧ 4611686018427387903 < n) from by omega) with h' | ⟨h', h2⟩
  all_goals
    clear h
    go_enter Try.func6, Try.ntmps6
    go_wp2_with fail
    refine (HN.out).mono ?_
    rintro e w1 ⟨rfl, hb1⟩
    clear HN
    go_wp2_with fail
    refine (put_no n w1 HH.out).mono ?_
    rintro e w' ⟨rfl, rfl⟩
    go_wp2_with (go_at_call 12; refine (size_any _ _).mono ?_; rw [HS.out]; rintro e w' ⟨rfl, rfl⟩)
    refine (wakes_any _).mono ?_
    rintro e w9 ⟨rfl, hb9⟩
    go_wp2_with fail
    go_ret
    exact ⟨rfl, hb1.trans (hb9.mono hb1.size)⟩

theorem vintBack_walk (a0 a1 c cut : Int) (w : World) (h0 : (Lit.int .i64 a0).wf = true) (_ : (Lit.int .i64 a1).wf = true) (hc : (Lit.int .u8 c).wf = true) (_ : (Lit.int .i64 cut).wf = true) :
    Calls Try.prog 6 #[.int .i64 a0, .int .i64 a1, .int .u8 c, .int .i64 cut] w fun e w' => e = .returned (.bool true) ∧ Below w.heap.size w w' := by
  have hw := wf_i64 h0
  obtain ⟨n, _, hN⟩ := n_det a0 a1 w hw.1 hw.2
  rcases putL_cases n with h | h | h | h | h
  · exact vintBack_no a0 a1 c cut w n h hN
  · exact vintBack_1 a0 a1 c cut w (wf_u8 hc) n h.1 h.2 hN
  · exact vintBack_2 a0 a1 c cut w (wf_u8 hc) n h.1 h.2 hN
  · exact vintBack_4 a0 a1 c cut w (wf_u8 hc) n h.1 h.2 hN
  · exact vintBack_8 a0 a1 c cut w (wf_u8 hc) n h.1 h.2 hN

end Go.Proofs.Ytlmndmcjkkikpaa
