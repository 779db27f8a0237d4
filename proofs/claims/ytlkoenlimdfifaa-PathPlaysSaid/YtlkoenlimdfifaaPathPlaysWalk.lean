/-
  The walk of PathPlays.
-/
import Derived.Test.YtlkoenlimdfifaaPathRead
import Derived.Test.YtlkoenlimdfifaaPathMath2
import Derived.Test.YtlkoenlimdfifaaConfig
import Derived.Test.YtlkoenlimdfifaaArgW
import Derived.Test.YtlkoenlimdfifaaFlSame
import Derived.Test.YtlkoenlimdfifaaSameInt
import Derived.Deep.CutBlock
import Derived.Deep.DeepCutAuto
import Derived.Deep.LoopGhost
namespace Go.Proofs.Ytlkoenlimdfifaa
open Go.RowKit

set_option maxRecDepth 100000 in
set_option maxHeartbeats 8000000 in
theorem pathPlays_walk (s : Su) (a1 : Option Addr) (len1 cap1 : Nat) (X1 : List ActW) (W : World) (h1 : ArgW W a1 len1 cap1 X1) :
    Calls Try.prog 5 #[s.val, .slice a1 len1 cap1] W fun e W' => e = .returned (.bool true) ∧ Below W.heap.size W W' := by
  have HA := Lib.hid h1
  have hre := h1.reach
  have hle := h1.le
  obtain ⟨spa, sbu, swi, sch, smo, sfi, ssc⟩ := s
  obtain ⟨⟨cpa, cbu, cwi, cch, cmo, cfi, csc⟩, hc⟩ : ∃ c, (Su.cf ⟨spa, sbu, swi, sch, smo, sfi, ssc⟩) = c := ⟨_, rfl⟩
  have HCF := Lib.hid (fun w => (show Calls Try.prog 27 #[.agg #[.int .i64 spa, .int .i64 sbu, .int .i64 swi, .int .i64 sch, .int .i64 smo, .int .i64 sfi, .int .i64 ssc]] w fun e w' => e = .returned (.agg #[.int .i64 cpa, .int .i64 cbu, .int .i64 cwi, .int .i64 cch, .int .i64 cmo, .int .i64 cfi, .int .i64 csc]) ∧ Below w.heap.size w w' by
    have h9 := config_any ⟨spa, sbu, swi, sch, smo, sfi, ssc⟩ w
    rw [hc] at h9
    exact h9))
  have hL : len1 ≤ 5864062014806 := by omega
  clear h1 hc hre hle
  simp only [Su.val]
  have HB0 := Lib.hid ((Below.refl W.heap.size W).alloc (Nat.le_refl _) (.cells #[.int .i64 spa, .int .i64 sbu, .int .i64 swi, .int .i64 sch, .int .i64 smo, .int .i64 sfi, .int .i64 ssc] tSu))
  go_enter Try.func5, Try.ntmps5
  go_wp2_with fail
  refine (HCF.out _).mono ?_
  rintro e w1 ⟨rfl, hb⟩
  have hb1 := HB0.out.trans (hb.mono HB0.out.size)
  obtain ⟨w2, hw2⟩ : ∃ w2, w1.alloc (.cells #[.int .i64 cpa, .int .i64 cbu, .int .i64 cwi, .int .i64 cch, .int .i64 cmo, .int .i64 cfi, .int .i64 csc] tCf) = w2 := ⟨_, rfl⟩
  have HB2 := Lib.hid (show Below W.heap.size W w2 by rw [← hw2]; exact hb1.alloc hb1.size _)
  have hrow : w2.rowIs w1.heap.size tCf 7 (cfF ⟨cpa, cbu, cwi, cch, cmo, cfi, csc⟩) := by
    rw [← hw2]
    exact World.rowIs_alloc w1 _ _ _ (fun i hi => by
      have : i < 7 := hi
      match i, this with
      | 0, _ | 1, _ | 2, _ | 3, _ | 4, _ | 5, _ | 6, _ => rfl)
  have HROW := Lib.hid hrow
  clear hb hb1 hrow HCF HB0
  go_wp2_with fail
  obtain ⟨b1, hb1q⟩ : ∃ b, w1.heap.size = b := ⟨_, rfl⟩
  rw [hb1q] at HROW ⊢
  have S1 := Lib.hid (rowIs_drew HROW.out)
  clear hw2 hb1q
  refine wp_region_held_drew (S := fun wi => wi.rowIs b1 tCf 7 (cfF ⟨cpa, cbu, cwi, cch, cmo, cfi, csc⟩)) (by kernel_rfl) S1.out ?_
  intro hHeld
  refine wpAnyH_take (i := 0) (v := ?_) rfl (by kernel_rfl) (by kernel_rfl) (by kernel_rfl) (fun _ _ _ h => h) (Or.inl ⟨by rfl, ?_⟩) (by assumption) ?_
  rotate_left
  · intro w hSw
    (try dsimp only at hSw)
    have c0 : w.cell? ⟨b1, 0, none⟩ = some (.int .i64 cpa) := World.rowIs.cell (i := 0) hSw (by omega)
    have c1 : w.cell? ⟨b1, 1, none⟩ = some (.int .i64 cbu) := World.rowIs.cell (i := 1) hSw (by omega)
    have c2 : w.cell? ⟨b1, 2, none⟩ = some (.int .i64 cwi) := World.rowIs.cell (i := 2) hSw (by omega)
    have c3 : w.cell? ⟨b1, 3, none⟩ = some (.int .i64 cch) := World.rowIs.cell (i := 3) hSw (by omega)
    have c4 : w.cell? ⟨b1, 4, none⟩ = some (.int .i64 cmo) := World.rowIs.cell (i := 4) hSw (by omega)
    have c5 : w.cell? ⟨b1, 5, none⟩ = some (.int .i64 cfi) := World.rowIs.cell (i := 5) hSw (by omega)
    have c6 : w.cell? ⟨b1, 6, none⟩ = some (.int .i64 csc) := World.rowIs.cell (i := 6) hSw (by omega)
    clear hSw
    go_simp
    try (with_reducible rfl)
  try simp only [Act.put, List.getElem_toArray, List.getElem_cons_zero, List.setIfInBounds_toArray, List.set_cons_zero, List.set_cons_succ]
  refine wpAnyH_take (i := 2) (v := ?_) rfl (by kernel_rfl) (by kernel_rfl) (by kernel_rfl) (fun _ _ _ h => h) (Or.inl ⟨by rfl, ?_⟩) (by assumption) ?_
  rotate_left
  · intro w hSw
    (try dsimp only at hSw)
    have c0 : w.cell? ⟨b1, 0, none⟩ = some (.int .i64 cpa) := World.rowIs.cell (i := 0) hSw (by omega)
    have c1 : w.cell? ⟨b1, 1, none⟩ = some (.int .i64 cbu) := World.rowIs.cell (i := 1) hSw (by omega)
    have c2 : w.cell? ⟨b1, 2, none⟩ = some (.int .i64 cwi) := World.rowIs.cell (i := 2) hSw (by omega)
    have c3 : w.cell? ⟨b1, 3, none⟩ = some (.int .i64 cch) := World.rowIs.cell (i := 3) hSw (by omega)
    have c4 : w.cell? ⟨b1, 4, none⟩ = some (.int .i64 cmo) := World.rowIs.cell (i := 4) hSw (by omega)
    have c5 : w.cell? ⟨b1, 5, none⟩ = some (.int .i64 cfi) := World.rowIs.cell (i := 5) hSw (by omega)
    have c6 : w.cell? ⟨b1, 6, none⟩ = some (.int .i64 csc) := World.rowIs.cell (i := 6) hSw (by omega)
    clear hSw
    go_simp
    try (with_reducible rfl)
  try simp only [Act.put, List.getElem_toArray, List.getElem_cons_zero, List.getElem_cons_succ, List.setIfInBounds_toArray, List.set_cons_zero, List.set_cons_succ]
  refine wpAnyH_ready (rs := [1]) (by kernel_rfl) (by simp) ?_
  refine AllReadyH.cons rfl (fun K hK => ?_) AllReadyH.nil
  go_simp
  refine (newpa_any _ _ _ _ _ _ _ _).mono ?_
  rintro e w3 ⟨p, pg, pw, pf, rfl, hpa, hb3⟩
  have HPA := Lib.hid (And.intro hpa hb3)
  have S3 := Lib.hid (World.rowIs.of_block S1.out (hb3.block b1 (World.rowIs.lt S1.out)))
  clear hpa hb3
  refine hK.out _ _ S3.out (fun hHeld2 => ?_)
  clear hK K hHeld
  have hHeld := hHeld2
  clear hHeld2
  try simp only [Act.put, List.getElem_toArray, List.getElem_cons_zero, List.getElem_cons_succ, List.setIfInBounds_toArray, List.set_cons_zero, List.set_cons_succ]
  refine wpAnyH_ready (rs := [3]) (by kernel_rfl) (by simp) ?_
  refine AllReadyH.cons rfl (fun K hK => ?_) AllReadyH.nil
  go_simp
  refine (newdq_any _ _ _ _ _ _ _ _).mono ?_
  rintro e w4 ⟨r, qg, qw, rfl, hdq, hb4⟩
  have HX := Lib.hid (both_new (W := W) (below_drewC HB2.out) HPA.out.1 HPA.out.2 hdq hb4)
  have S4 := Lib.hid (World.rowIs.of_block S3.out (hb4.block b1 (World.rowIs.lt S3.out)))
  clear hdq hb4 HPA S1
  refine hK.out _ _ S4.out (fun hHeld2 => ?_)
  clear hK K hHeld S3
  have hHeld := hHeld2
  clear hHeld2
  try simp only [Act.put, List.getElem_toArray, List.getElem_cons_zero, List.getElem_cons_succ, List.setIfInBounds_toArray, List.set_cons_zero, List.set_cons_succ]
  refine wpAnyH_take (i := 4) (v := ?_) rfl (by kernel_rfl) (by kernel_rfl) (by kernel_rfl) (fun _ _ _ h => h) (Or.inl ⟨by rfl, ?_⟩) (by assumption) ?_
  rotate_left
  · intro w hSw
    (try dsimp only at hSw)
    go_simp
    try (with_reducible rfl)
  try simp only [Act.put, List.getElem_toArray, List.getElem_cons_zero, List.getElem_cons_succ, List.setIfInBounds_toArray, List.set_cons_zero, List.set_cons_succ]
  refine wpAnyH_take (i := 5) (v := ?_) rfl (by kernel_rfl) (by kernel_rfl) (by kernel_rfl) (fun _ _ _ h => h) (Or.inl ⟨by rfl, ?_⟩) (by assumption) ?_
  rotate_left
  · intro w hSw
    (try dsimp only at hSw)
    go_simp
    try (with_reducible rfl)
  try simp only [Act.put, List.getElem_toArray, List.getElem_cons_zero, List.getElem_cons_succ, List.setIfInBounds_toArray, List.set_cons_zero, List.set_cons_succ]
  refine wpAnyH_done (by kernel_rfl) ?_ _
  clear hHeld S4 HROW HB2
  have HX0 := Lib.hid (show ∃ P, PB W w4 p r P P ∧ Fine P 0 from ⟨_, HX.out, new_fine _ _⟩)
  clear HX
  go_wp2_with fail
  go_loopw [8, 9] (fun nv iv wr => ∃ (k : Nat) (now : Int), k ≤ 50 ∧ nv = .int .i64 now ∧ iv = .int .i64 k ∧ 0 ≤ now ∧ now ≤ 4 * (k : Int) ∧ Hid (∃ P, PB W wr p r P P ∧ Fine P k)) (fun _ iv _ => 50 - (intOf iv).toNat)
  case atStart => exact ⟨0, 0, by omega, rfl, rfl, by omega, by omega, HX0⟩
  case round =>
    clear HX0
    obtain ⟨k, now, hk50, rfl, rfl, nw0, nw1, hx⟩ := hrel
    obtain ⟨P, hpb, hfn⟩ := hx.out
    clear hx
    by_cases hlt : k < len1 ∧ k < 50
    · obtain ⟨t0, t1⟩ := hlt
      obtain ⟨ab, ao, ha, hac⟩ := (HA.out.later hpb.bel).cell (by omega)
      subst ha
      obtain ⟨y0, y1, y2⟩ := hac k t0
      obtain ⟨d, hd⟩ : ∃ x, (X1.getD k default).d = x := ⟨_, rfl⟩
      obtain ⟨n, hn⟩ : ∃ x, (X1.getD k default).n = x := ⟨_, rfl⟩
      obtain ⟨m, hm⟩ : ∃ x, (X1.getD k default).m = x := ⟨_, rfl⟩
      rw [hd] at y0
      rw [hn] at y1
      rw [hm] at y2
      have i0 : (k : Int) < (len1 : Int) := by omega
      have i1 : (k : Int) < 50 := by omega
      have i2 : (0 : Int) ≤ (k : Int) := by omega
      have HK := Lib.hid t1
      have HFN := Lib.hid hfn
      have HIW := Lib.hid (show wrap64 ((k : Int) + 1) = ((k + 1 : Nat) : Int) from wrap_q (by omega) (by omega) (by omega))
      obtain ⟨z, hz⟩ : ∃ z, wr.heap.size = z := ⟨_, rfl⟩
      obtain ⟨wa, hwa⟩ : ∃ wa, wr.alloc (.cells #[.int .i64 d, .int .i64 n, .int .i64 m] 48) = wa := ⟨_, rfl⟩
      have HPB := Lib.hid (show PBB W wa p r P P z wa by rw [← hwa, ← hz]; exact hpb.box _)
      have x0 : wa.cell? ⟨z, 0, none⟩ = some (.int .i64 d) := by rw [← hwa, World.cell?_alloc_at _ _ _ _ hz.symm]; rfl
      have x1 : wa.cell? ⟨z, 0 + 1, none⟩ = some (.int .i64 n) := by rw [← hwa, World.cell?_alloc_at _ _ _ _ hz.symm]; rfl
      have x2 : wa.cell? ⟨z, 0 + 2, none⟩ = some (.int .i64 m) := by rw [← hwa, World.cell?_alloc_at _ _ _ _ hz.symm]; rfl
      clear hac hd hn hm hpb hfn t0 t1 hk50
      go_wp2_with fail
      refine (within_any m 4 _ (by omega) (by omega)).mono ?_
      rintro e w5 ⟨rfl, rfl⟩
      have m0 : 0 ≤ m % 4 := Int.emod_nonneg _ (by omega)
      have m1 : m % 4 < 4 := Int.emod_lt_of_pos _ (by omega)
      obtain ⟨m9, hm9⟩ : ∃ x, m % 4 = x := ⟨_, rfl⟩
      rw [hm9] at m0 m1 ⊢
      have HWA := Lib.hid (show wrap64 (now + m9) = now + m9 from wrap_q rfl (by omega) (by omega))
      clear hm9 x2
      go_wp2_with fail
      refine (within_any d 16 _ (by omega) (by omega)).mono ?_
      rintro e w5 ⟨rfl, rfl⟩
      have d0 : 0 ≤ d % 16 := Int.emod_nonneg _ (by omega)
      have d1 : d % 16 < 16 := Int.emod_lt_of_pos _ (by omega)
      obtain ⟨M, hM⟩ : ∃ x, d % 16 = x := ⟨_, rfl⟩
      rw [hM] at d0 d1 ⊢
      try rw [HWA.out]
      obtain ⟨T, hT⟩ : ∃ T, now + m9 = T := ⟨_, rfl⟩
      have HT := Lib.hid (show 0 ≤ T ∧ T ≤ 4 * ((k : Int) + 1) ∧ T ≤ 200 by omega)
      rw [hT]
      clear hM hT HWA m0 m1 nw0 nw1 x0
      go_upto_block 2 with (fail)
      go_cut [] (fun wx => ∃ wz, wz = wx ∧ Hid (∃ P, PB W wz p r P P ∧ Fine P (k + 1)))
      case first =>
        have hM : M = 0 ∨ M = 1 ∨ M = 2 ∨ (M = 3 ∨ M = 4 ∨ M = 5 ∨ M = 6 ∨ M = 7 ∨ M = 8) ∨ (M = 9 ∨ M = 10 ∨ M = 11 ∨ M = 12) ∨ (M = 13 ∨ M = 14 ∨ M = 15) := by omega
        clear d0 d1
        rcases hM with hM | hM | hM | hM | hM | hM
        · as_aux_lemma =>
            subst hM
            obtain ⟨u, hu⟩ : ∃ u, P.up = u := ⟨_, rfl⟩
            have HU := Lib.hid hu
            have hcx := HPB.out.c0
            rw [hu] at hcx
            have HC := Lib.hid hcx
            have HD := Lib.hid ((HPB.out.later (below_drP wa 1)).up)
            clear hu hcx
            rw [HU.out] at HD
            cases u
            all_goals
              go_wp2_with fail
              have S0 := Lib.hid (show wa.drew.cell? ⟨r, 0, none⟩ = _ from HC.out)
              refine wp_region_held_drew (S := fun wi => wi.cell? ⟨r, 0, none⟩ = some (.bool _)) (by kernel_rfl) S0.out ?_
              intro hHeld
              refine wpAnyH_take (i := 0) (v := ?_) rfl (by kernel_rfl) (by kernel_rfl) (by kernel_rfl) (fun _ _ _ h => h) (Or.inl ⟨by rfl, ?_⟩) (by assumption) ?_
              rotate_left
              · intro w hSw
                (try dsimp only at hSw)
                go_simp
                try (with_reducible rfl)
              try simp only [Act.put, List.getElem_toArray, List.getElem_cons_zero, List.setIfInBounds_toArray, List.set_cons_zero, List.set_cons_succ]
              refine wpAnyH_take (i := 2) (v := ?_) rfl (by kernel_rfl) (by kernel_rfl) (by kernel_rfl) (fun _ _ _ h => h) (Or.inl ⟨by rfl, ?_⟩) (by assumption) ?_
              rotate_left
              · intro w hSw
                (try dsimp only at hSw)
                go_simp
                try (with_reducible rfl)
              try simp only [Act.put, List.getElem_toArray, List.getElem_cons_zero, List.getElem_cons_succ, List.setIfInBounds_toArray, List.set_cons_zero, List.set_cons_succ]
              refine wpAnyH_take (i := 3) (v := ?_) rfl (by kernel_rfl) (by kernel_rfl) (by kernel_rfl) (fun _ _ _ h => h) (Or.inl ⟨by rfl, ?_⟩) (by assumption) ?_
              rotate_left
              · intro w hSw
                (try dsimp only at hSw)
                go_simp
                try (with_reducible rfl)
              try simp only [Act.put, List.getElem_toArray, List.getElem_cons_zero, List.getElem_cons_succ, List.setIfInBounds_toArray, List.set_cons_zero, List.set_cons_succ]
              refine wpAnyH_take (i := 4) (v := ?_) rfl (by kernel_rfl) (by kernel_rfl) (by kernel_rfl) (fun _ _ _ h => h) (Or.inl ⟨by rfl, ?_⟩) (by assumption) ?_
              rotate_left
              · intro w hSw
                (try dsimp only at hSw)
                go_simp
                try (with_reducible rfl)
              try simp only [Act.put, List.getElem_toArray, List.getElem_cons_zero, List.getElem_cons_succ, List.setIfInBounds_toArray, List.set_cons_zero, List.set_cons_succ]
              refine wpAnyH_take (i := 5) (v := ?_) rfl (by kernel_rfl) (by kernel_rfl) (by kernel_rfl) (fun _ _ _ h => h) (Or.inl ⟨by rfl, ?_⟩) (by assumption) ?_
              rotate_left
              · intro w hSw
                (try dsimp only at hSw)
                go_simp
                try (with_reducible rfl)
              try simp only [Act.put, List.getElem_toArray, List.getElem_cons_zero, List.getElem_cons_succ, List.setIfInBounds_toArray, List.set_cons_zero, List.set_cons_succ]
              refine wpAnyH_ready (rs := [1]) (by kernel_rfl) (by simp) ?_
              refine AllReadyH.cons rfl (fun K hK => ?_) AllReadyH.nil
              go_simp
              refine HD.out.mono ?_
              rintro e wb ⟨rfl, hx⟩
              have HX := Lib.hid hx
              have hc9 := hx.c0
              rw [HU.out] at hc9
              have S1 := Lib.hid hc9
              clear hx hc9
              refine hK.out _ _ S1.out (fun hHeld2 => ?_)
              clear hK K hHeld S0 HD HC
              have hHeld := hHeld2
              clear hHeld2
              try simp only [Act.put, List.getElem_toArray, List.getElem_cons_zero, List.getElem_cons_succ, List.setIfInBounds_toArray, List.set_cons_zero, List.set_cons_succ]
              refine wpAnyH_take (i := 6) (v := ?_) rfl (by kernel_rfl) (by kernel_rfl) (by kernel_rfl) (fun _ _ _ h => h) (Or.inl ⟨by rfl, ?_⟩) (by assumption) ?_
              rotate_left
              · intro w hSw
                (try dsimp only at hSw)
                go_simp
                try (with_reducible rfl)
              try simp only [Act.put, List.getElem_toArray, List.getElem_cons_zero, List.getElem_cons_succ, List.setIfInBounds_toArray, List.set_cons_zero, List.set_cons_succ]
              refine wpAnyH_done (by kernel_rfl) ?_ _
              clear hHeld S1
              obtain ⟨z0, z1, z2⟩ := HX.out.pb.dup true
              rw [HU.out] at z0
              have HN := Lib.hid z2
              clear z2
              go_wp2_with fail
              go_meet
              exact ⟨_, rfl, Lib.hid ⟨_, HN.out, (HFN.out.setUp true).next⟩⟩
        · as_aux_lemma =>
            subst hM
            by_cases hn4 : n.tmod 4 = 0
            · have hn5 : (n.tmod 4 != 0) = false := by simp [hn4]
              obtain ⟨u, hu⟩ : ∃ u, P.up = u := ⟨_, rfl⟩
              have HU := Lib.hid hu
              obtain ⟨ln, hln⟩ : ∃ ln, P.fl.length = ln := ⟨_, rfl⟩
              have HLN := Lib.hid hln
              have HLB := Lib.hid (show ln ≤ 1099511627776 by have := HPB.out.okP.n; omega)
              have hc := HPB.out.c0
              rw [hu] at hc
              clear hu hln
              cases u
              · go_wp2_with fail
                refine (HPB.out.dnil.down (m := 0) (by rw [HU.out]; rfl)).mono ?_
                rintro e wb ⟨A8, c8, rfl, hpb, ho, ho2⟩
                rw [HU.out] at hpb ho
                simp only [Bool.false_eq_true, if_false] at hpb ho
                have HB := Lib.hid hpb
                have HS := Lib.hid (lsameQ_any ho ho2 (by omega))
                clear hpb ho ho2 hc
                go_wp2_with fail
                refine HS.out.mono ?_
                rintro e wc ⟨rfl, q9, rfl⟩
                obtain ⟨z0, z1, z2⟩ := (HB.out.later (below_drP wb q9)).dup false
                rw [HU.out] at z0
                rw [setUp_same P HU.out] at z2
                have HNX := Lib.hid z2
                clear z2 HS HB
                go_wp2_with fail
                go_meet
                exact ⟨_, rfl, Lib.hid ⟨_, HNX.out, HFN.out.next⟩⟩
              · go_wp2_with fail
                refine (HPB.out.ddrop HLN.out).mono ?_
                rintro e wb ⟨A7, c7, rfl, hpd⟩
                have HPD := Lib.hid hpd
                clear hpd hc
                go_wp2_with fail
                refine (HPD.out.down (m := ln) (by rw [HU.out]; exact HLN.out)).mono ?_
                rintro e wc ⟨A8, c8, rfl, hpb, ho, ho2⟩
                rw [HU.out] at hpb ho
                simp only [if_true] at hpb ho
                have HB := Lib.hid hpb
                have HS := Lib.hid (lsameQ_any ho ho2 HLB.out)
                clear hpb ho ho2 HPD
                go_wp2_with fail
                refine HS.out.mono ?_
                rintro e wd ⟨rfl, q9, rfl⟩
                obtain ⟨z0, z1, z2⟩ := (HB.out.later (below_drP wc q9)).dup false
                have HNX := Lib.hid (show PB W _ p r P.down P.down from z2)
                have z0' : (wc.drewN q9).cell? ⟨r, 0, none⟩ = some (.bool true) := by rw [← HU.out]; exact z0
                clear z0 z2 HS HB
                go_wp2_with fail
                go_meet
                exact ⟨_, rfl, Lib.hid ⟨_, HNX.out, HFN.out.down.next⟩⟩
            · have hn5 : (n.tmod 4 != 0) = true := by simp [hn4]
              go_wp2_with fail
              go_roundw
              case rel => exact ⟨k + 1, T, by have := HK.out; omega, rfl, by first | rfl | (rw [HIW.out]) | go_num, HT.out.1, by have := HT.out; push_cast; omega, Lib.hid ⟨_, HPB.out.pb, HFN.out.next⟩⟩
              case measure => (try rw [HIW.out]); have := HK.out; simp [intOf]; omega
        · as_aux_lemma =>
            subst hM
            obtain ⟨u, hu⟩ : ∃ u, P.jo = u := ⟨_, rfl⟩
            have HU := Lib.hid hu
            have hcx := HPB.out.c1
            rw [hu] at hcx
            have HC := Lib.hid hcx
            have HD := Lib.hid ((HPB.out.later (below_drP wa 1)).join)
            clear hu hcx
            rw [HU.out] at HD
            cases u
            all_goals
              go_wp2_with fail
              have S0 := Lib.hid (show wa.drew.cell? ⟨r, 1, none⟩ = _ from HC.out)
              refine wp_region_held_drew (S := fun wi => wi.cell? ⟨r, 1, none⟩ = some (.bool _)) (by kernel_rfl) S0.out ?_
              intro hHeld
              refine wpAnyH_take (i := 0) (v := ?_) rfl (by kernel_rfl) (by kernel_rfl) (by kernel_rfl) (fun _ _ _ h => h) (Or.inl ⟨by rfl, ?_⟩) (by assumption) ?_
              rotate_left
              · intro w hSw
                (try dsimp only at hSw)
                go_simp
                try (with_reducible rfl)
              try simp only [Act.put, List.getElem_toArray, List.getElem_cons_zero, List.setIfInBounds_toArray, List.set_cons_zero, List.set_cons_succ]
              refine wpAnyH_take (i := 2) (v := ?_) rfl (by kernel_rfl) (by kernel_rfl) (by kernel_rfl) (fun _ _ _ h => h) (Or.inl ⟨by rfl, ?_⟩) (by assumption) ?_
              rotate_left
              · intro w hSw
                (try dsimp only at hSw)
                go_simp
                try (with_reducible rfl)
              try simp only [Act.put, List.getElem_toArray, List.getElem_cons_zero, List.getElem_cons_succ, List.setIfInBounds_toArray, List.set_cons_zero, List.set_cons_succ]
              refine wpAnyH_take (i := 3) (v := ?_) rfl (by kernel_rfl) (by kernel_rfl) (by kernel_rfl) (fun _ _ _ h => h) (Or.inl ⟨by rfl, ?_⟩) (by assumption) ?_
              rotate_left
              · intro w hSw
                (try dsimp only at hSw)
                go_simp
                try (with_reducible rfl)
              try simp only [Act.put, List.getElem_toArray, List.getElem_cons_zero, List.getElem_cons_succ, List.setIfInBounds_toArray, List.set_cons_zero, List.set_cons_succ]
              refine wpAnyH_take (i := 4) (v := ?_) rfl (by kernel_rfl) (by kernel_rfl) (by kernel_rfl) (fun _ _ _ h => h) (Or.inl ⟨by rfl, ?_⟩) (by assumption) ?_
              rotate_left
              · intro w hSw
                (try dsimp only at hSw)
                go_simp
                try (with_reducible rfl)
              try simp only [Act.put, List.getElem_toArray, List.getElem_cons_zero, List.getElem_cons_succ, List.setIfInBounds_toArray, List.set_cons_zero, List.set_cons_succ]
              refine wpAnyH_take (i := 5) (v := ?_) rfl (by kernel_rfl) (by kernel_rfl) (by kernel_rfl) (fun _ _ _ h => h) (Or.inl ⟨by rfl, ?_⟩) (by assumption) ?_
              rotate_left
              · intro w hSw
                (try dsimp only at hSw)
                go_simp
                try (with_reducible rfl)
              try simp only [Act.put, List.getElem_toArray, List.getElem_cons_zero, List.getElem_cons_succ, List.setIfInBounds_toArray, List.set_cons_zero, List.set_cons_succ]
              refine wpAnyH_ready (rs := [1]) (by kernel_rfl) (by simp) ?_
              refine AllReadyH.cons rfl (fun K hK => ?_) AllReadyH.nil
              go_simp
              refine HD.out.mono ?_
              rintro e wb ⟨rfl, hx⟩
              have HX := Lib.hid hx
              have hc9 := hx.c1
              rw [HU.out] at hc9
              have S1 := Lib.hid hc9
              clear hx hc9
              refine hK.out _ _ S1.out (fun hHeld2 => ?_)
              clear hK K hHeld S0 HD HC
              have hHeld := hHeld2
              clear hHeld2
              try simp only [Act.put, List.getElem_toArray, List.getElem_cons_zero, List.getElem_cons_succ, List.setIfInBounds_toArray, List.set_cons_zero, List.set_cons_succ]
              refine wpAnyH_take (i := 6) (v := ?_) rfl (by kernel_rfl) (by kernel_rfl) (by kernel_rfl) (fun _ _ _ h => h) (Or.inl ⟨by rfl, ?_⟩) (by assumption) ?_
              rotate_left
              · intro w hSw
                (try dsimp only at hSw)
                go_simp
                try (with_reducible rfl)
              try simp only [Act.put, List.getElem_toArray, List.getElem_cons_zero, List.getElem_cons_succ, List.setIfInBounds_toArray, List.set_cons_zero, List.set_cons_succ]
              refine wpAnyH_done (by kernel_rfl) ?_ _
              clear hHeld S1
              obtain ⟨z0, z1, z2⟩ := HX.out.pb.djo true
              rw [HU.out] at z0
              have HN := Lib.hid z2
              clear z2
              go_wp2_with fail
              go_meet
              exact ⟨_, rfl, Lib.hid ⟨_, HN.out, (HFN.out.setJo true).next⟩⟩
        · as_aux_lemma =>
            obtain ⟨u, hu⟩ : ∃ u, P.up = u := ⟨_, rfl⟩
            have HU := Lib.hid hu
            have hc := HPB.out.c0
            rw [hu] at hc
            clear hu
            have b0 : (M == 0) = false := by rw [beq_eq_false_iff_ne]; omega
            have b1 : (M == 1) = false := by rw [beq_eq_false_iff_ne]; omega
            have b2 : (M == 2) = false := by rw [beq_eq_false_iff_ne]; omega
            go_upto_if 102 with (fail)
            go_cut [102] (fun bv wx => bv = .bool true ∧ wa = wx)
            case first =>
              as_aux_lemma =>
                rcases hM with rfl | rfl | rfl | rfl | rfl | rfl
                all_goals
                  go_wp2_with fail
                  go_meet
                  exact ⟨rfl, rfl⟩
            case rest =>
            obtain ⟨rfl, rfl⟩ := hcut
            clear hM
            cases u
            · as_aux_lemma =>
                go_wp2_with fail
                go_roundw
                case rel => exact ⟨k + 1, T, by have := HK.out; omega, rfl, by first | rfl | (rw [HIW.out]) | go_num, HT.out.1, by have := HT.out; push_cast; omega, Lib.hid ⟨_, HPB.out.pb, HFN.out.next⟩⟩
                case measure => (try rw [HIW.out]); have := HK.out; simp [intOf]; omega
            · have hs0 := HPB.out.okP.s1
              have hs1 := HFN.out.s
              obtain ⟨S, hS⟩ : ∃ S, P.sent = S := ⟨_, rfl⟩
              have HN1 := Lib.hid (HPB.out.number (by have := HK.out; omega))
              rw [hS] at HN1 hs0 hs1
              have HS := Lib.hid (And.intro hS (show 0 ≤ S ∧ S ≤ 50 by have := HK.out; omega))
              have f0 : -50 < n.tmod 50 ∧ n.tmod 50 < 50 := ⟨by have := Int.tmod_lt_of_pos (-n) (show (0 : Int) < 50 by omega); rw [Int.neg_tmod] at this; omega, Int.tmod_lt_of_pos n (by omega)⟩
              obtain ⟨F, hF⟩ : ∃ F, n.tmod 50 = F := ⟨_, rfl⟩
              rw [hF] at f0
              obtain ⟨f1, f2⟩ := f0
              have HX1 := Lib.hid x1
              have HF5 := Lib.hid (show wrap64 (F + 5) = F + 5 from wrap_q rfl (by omega) (by omega))
              have HFL := Lib.hid (show P.fl.length ≤ k from HFN.out.n)
              clear hS hs0 hs1 hc
              rcases firstQ_or P.fl S with ⟨i9, hi9⟩ | hno
              · have HI9 := Lib.hid hi9
                clear hi9
                as_aux_lemma =>
                  have hc := HPB.out.c0
                  rw [HU.out] at hc
                  go_wp2_with fail
                  refine HN1.out.mono ?_
                  rintro e wb ⟨rfl, hx⟩
                  have HB := Lib.hid hx
                  have HN2 := Lib.hid (hx.dnumber (by rw [HS.out.1]; have := HS.out.2; omega))
                  rw [HS.out.1] at HN2
                  clear hx hc HN1
                  go_wp2_with fail
                  refine HN2.out.mono ?_
                  rintro e wc ⟨rfl, hx⟩
                  have x1c := (World.cell?_of_block hx.blk).trans HX1.out
                  have HC := Lib.hid hx
                  have hf5 := HF5.out
                  obtain ⟨z2, hz2⟩ : ∃ z, wc.heap.size = z := ⟨_, rfl⟩
                  obtain ⟨wd, hwd⟩ : ∃ w, wc.alloc (.cells #[.int .i64 S, .int .i64 F, .int .i64 (F + 5), .int .i64 T] tOutP) = w := ⟨_, rfl⟩
                  have HDD := Lib.hid (show PBB W wd p r P.num P.num z2 wd by rw [← hwd, ← hz2]; exact hx.pb.box _)
                  have HBX := Lib.hid (show Bx wd z2 ⟨S, F, F + 5, T⟩ by rw [← hwd, ← hz2]; exact Bx.new _ _ _ _ _ _)
                  clear hx HB HN2 HC
                  go_wp2_with fail
                  clear x1c hz2 hwd hf5
                  have HD0 := Lib.hid (HDD.out.later (below_drP wd 1))
                  have S0 := Lib.hid (show Bx wd.drew z2 ⟨S, F, F + 5, T⟩ from HBX.out)
                  clear HDD
                  as_aux_lemma =>
                    refine wp_region_held_drew (S := fun wi => Bx wi z2 ⟨S, F, F + 5, T⟩) (by kernel_rfl) S0.out ?_
                    intro hHeld
                    refine wpAnyH_take (i := 0) (v := ?_) rfl (by kernel_rfl) (by kernel_rfl) (by kernel_rfl) (fun _ _ _ h => h) (Or.inl ⟨by rfl, ?_⟩) (by assumption) ?_
                    rotate_left
                    · intro w hSw
                      (try dsimp only at hSw)
                      go_simp
                      try (with_reducible rfl)
                    try simp only [Act.put, List.getElem_toArray, List.getElem_cons_zero, List.setIfInBounds_toArray, List.set_cons_zero, List.set_cons_succ]
                    refine wpAnyH_take (i := 1) (v := ?_) rfl (by kernel_rfl) (by kernel_rfl) (by kernel_rfl) (fun _ _ _ h => h) (Or.inl ⟨by rfl, ?_⟩) (by assumption) ?_
                    rotate_left
                    · intro w hSw
                      (try dsimp only at hSw)
                      obtain ⟨b0, b1, b2, b3⟩ := hSw
                      (try dsimp only at b0 b1 b2 b3)
                      go_simp
                      try (with_reducible rfl)
                    try simp only [Act.put, List.getElem_toArray, List.getElem_cons_zero, List.getElem_cons_succ, List.setIfInBounds_toArray, List.set_cons_zero, List.set_cons_succ]
                    refine wpAnyH_take (i := 3) (v := ?_) rfl (by kernel_rfl) (by kernel_rfl) (by kernel_rfl) (fun _ _ _ h => h) (Or.inl ⟨by rfl, ?_⟩) (by assumption) ?_
                    rotate_left
                    · intro w hSw
                      (try dsimp only at hSw)
                      go_simp
                      try (with_reducible rfl)
                    try simp only [Act.put, List.getElem_toArray, List.getElem_cons_zero, List.getElem_cons_succ, List.setIfInBounds_toArray, List.set_cons_zero, List.set_cons_succ]
                    refine wpAnyH_take (i := 4) (v := ?_) rfl (by kernel_rfl) (by kernel_rfl) (by kernel_rfl) (fun _ _ _ h => h) (Or.inl ⟨by rfl, ?_⟩) (by assumption) ?_
                    rotate_left
                    · intro w hSw
                      (try dsimp only at hSw)
                      go_simp
                      try (with_reducible rfl)
                    try simp only [Act.put, List.getElem_toArray, List.getElem_cons_zero, List.getElem_cons_succ, List.setIfInBounds_toArray, List.set_cons_zero, List.set_cons_succ]
                    refine wpAnyH_take (i := 5) (v := ?_) rfl (by kernel_rfl) (by kernel_rfl) (by kernel_rfl) (fun _ _ _ h => h) (Or.inl ⟨by rfl, ?_⟩) (by assumption) ?_
                    rotate_left
                    · intro w hSw
                      (try dsimp only at hSw)
                      go_simp
                      try (with_reducible rfl)
                    try simp only [Act.put, List.getElem_toArray, List.getElem_cons_zero, List.getElem_cons_succ, List.setIfInBounds_toArray, List.set_cons_zero, List.set_cons_succ]
                    refine wpAnyH_take (i := 6) (v := ?_) rfl (by kernel_rfl) (by kernel_rfl) (by kernel_rfl) (fun _ _ _ h => h) (Or.inl ⟨by rfl, ?_⟩) (by assumption) ?_
                    rotate_left
                    · intro w hSw
                      (try dsimp only at hSw)
                      obtain ⟨b0, b1, b2, b3⟩ := hSw
                      (try dsimp only at b0 b1 b2 b3)
                      go_simp
                      try (with_reducible rfl)
                    try simp only [Act.put, List.getElem_toArray, List.getElem_cons_zero, List.getElem_cons_succ, List.setIfInBounds_toArray, List.set_cons_zero, List.set_cons_succ]
                    refine wpAnyH_ready (rs := [2]) (by kernel_rfl) (by simp) ?_
                    refine AllReadyH.cons rfl (fun K hK => ?_) AllReadyH.nil
                    go_simp
                    refine (HD0.out.out_no S F (F + 5) T i9 HI9.out).mono ?_
                    rintro e we ⟨rfl, hx⟩
                    have HE := Lib.hid hx
                    have S1 := Lib.hid (HBX.out.of_block hx.blk)
                    clear hx
                    refine hK.out _ _ S1.out (fun hHeld2 => ?_)
                    clear hK K hHeld S0 HD0
                    have hHeld := hHeld2
                    clear hHeld2
                    try simp only [Act.put, List.getElem_toArray, List.getElem_cons_zero, List.getElem_cons_succ, List.setIfInBounds_toArray, List.set_cons_zero, List.set_cons_succ]
                    refine wpAnyH_ready (rs := [7]) (by kernel_rfl) (by simp) ?_
                    refine AllReadyH.cons rfl (fun K hK => ?_) AllReadyH.nil
                    go_simp
                    refine (HE.out.dadd_no S F (F + 5) T i9 HI9.out).mono ?_
                    rintro e wf ⟨rfl, hx⟩
                    have HG := Lib.hid hx
                    have S2 := Lib.hid (HBX.out.of_block hx.blk)
                    clear hx
                    refine hK.out _ _ S2.out (fun hHeld2 => ?_)
                    clear hK K hHeld S1 HE
                    have hHeld := hHeld2
                    clear hHeld2
                    try simp only [Act.put, List.getElem_toArray, List.getElem_cons_zero, List.getElem_cons_succ, List.setIfInBounds_toArray, List.set_cons_zero, List.set_cons_succ]
                    refine wpAnyH_take (i := 8) (v := ?_) rfl (by kernel_rfl) (by kernel_rfl) (by kernel_rfl) (fun _ _ _ h => h) (Or.inl ⟨by rfl, ?_⟩) (by assumption) ?_
                    rotate_left
                    · intro w hSw
                      (try dsimp only at hSw)
                      go_simp
                      try (with_reducible rfl)
                    try simp only [Act.put, List.getElem_toArray, List.getElem_cons_zero, List.getElem_cons_succ, List.setIfInBounds_toArray, List.set_cons_zero, List.set_cons_succ]
                    refine wpAnyH_done (by kernel_rfl) ?_ _
                    clear hHeld S2 HBX
                    go_wp2_with fail
                    go_meet
                    exact ⟨_, rfl, Lib.hid ⟨_, HG.out.pb, HFN.out.num⟩⟩
              · have HNO := Lib.hid hno
                clear hno
                as_aux_lemma =>
                  have hc := HPB.out.c0
                  rw [HU.out] at hc
                  go_wp2_with fail
                  refine HN1.out.mono ?_
                  rintro e wb ⟨rfl, hx⟩
                  have HB := Lib.hid hx
                  have HN2 := Lib.hid (hx.dnumber (by rw [HS.out.1]; have := HS.out.2; omega))
                  rw [HS.out.1] at HN2
                  clear hx hc HN1
                  go_wp2_with fail
                  refine HN2.out.mono ?_
                  rintro e wc ⟨rfl, hx⟩
                  have x1c := (World.cell?_of_block hx.blk).trans HX1.out
                  have HC := Lib.hid hx
                  have hf5 := HF5.out
                  obtain ⟨z2, hz2⟩ : ∃ z, wc.heap.size = z := ⟨_, rfl⟩
                  obtain ⟨wd, hwd⟩ : ∃ w, wc.alloc (.cells #[.int .i64 S, .int .i64 F, .int .i64 (F + 5), .int .i64 T] tOutP) = w := ⟨_, rfl⟩
                  have HDD := Lib.hid (show PBB W wd p r P.num P.num z2 wd by rw [← hwd, ← hz2]; exact hx.pb.box _)
                  have HBX := Lib.hid (show Bx wd z2 ⟨S, F, F + 5, T⟩ by rw [← hwd, ← hz2]; exact Bx.new _ _ _ _ _ _)
                  clear hx HB HN2 HC
                  go_wp2_with fail
                  clear x1c hz2 hwd hf5
                  have HD0 := Lib.hid (HDD.out.later (below_drP wd 1))
                  have S0 := Lib.hid (show Bx wd.drew z2 ⟨S, F, F + 5, T⟩ from HBX.out)
                  clear HDD
                  as_aux_lemma =>
                    refine wp_region_held_drew (S := fun wi => Bx wi z2 ⟨S, F, F + 5, T⟩) (by kernel_rfl) S0.out ?_
                    intro hHeld
                    refine wpAnyH_take (i := 0) (v := ?_) rfl (by kernel_rfl) (by kernel_rfl) (by kernel_rfl) (fun _ _ _ h => h) (Or.inl ⟨by rfl, ?_⟩) (by assumption) ?_
                    rotate_left
                    · intro w hSw
                      (try dsimp only at hSw)
                      go_simp
                      try (with_reducible rfl)
                    try simp only [Act.put, List.getElem_toArray, List.getElem_cons_zero, List.setIfInBounds_toArray, List.set_cons_zero, List.set_cons_succ]
                    refine wpAnyH_take (i := 1) (v := ?_) rfl (by kernel_rfl) (by kernel_rfl) (by kernel_rfl) (fun _ _ _ h => h) (Or.inl ⟨by rfl, ?_⟩) (by assumption) ?_
                    rotate_left
                    · intro w hSw
                      (try dsimp only at hSw)
                      obtain ⟨b0, b1, b2, b3⟩ := hSw
                      (try dsimp only at b0 b1 b2 b3)
                      go_simp
                      try (with_reducible rfl)
                    try simp only [Act.put, List.getElem_toArray, List.getElem_cons_zero, List.getElem_cons_succ, List.setIfInBounds_toArray, List.set_cons_zero, List.set_cons_succ]
                    refine wpAnyH_take (i := 3) (v := ?_) rfl (by kernel_rfl) (by kernel_rfl) (by kernel_rfl) (fun _ _ _ h => h) (Or.inl ⟨by rfl, ?_⟩) (by assumption) ?_
                    rotate_left
                    · intro w hSw
                      (try dsimp only at hSw)
                      go_simp
                      try (with_reducible rfl)
                    try simp only [Act.put, List.getElem_toArray, List.getElem_cons_zero, List.getElem_cons_succ, List.setIfInBounds_toArray, List.set_cons_zero, List.set_cons_succ]
                    refine wpAnyH_take (i := 4) (v := ?_) rfl (by kernel_rfl) (by kernel_rfl) (by kernel_rfl) (fun _ _ _ h => h) (Or.inl ⟨by rfl, ?_⟩) (by assumption) ?_
                    rotate_left
                    · intro w hSw
                      (try dsimp only at hSw)
                      go_simp
                      try (with_reducible rfl)
                    try simp only [Act.put, List.getElem_toArray, List.getElem_cons_zero, List.getElem_cons_succ, List.setIfInBounds_toArray, List.set_cons_zero, List.set_cons_succ]
                    refine wpAnyH_take (i := 5) (v := ?_) rfl (by kernel_rfl) (by kernel_rfl) (by kernel_rfl) (fun _ _ _ h => h) (Or.inl ⟨by rfl, ?_⟩) (by assumption) ?_
                    rotate_left
                    · intro w hSw
                      (try dsimp only at hSw)
                      go_simp
                      try (with_reducible rfl)
                    try simp only [Act.put, List.getElem_toArray, List.getElem_cons_zero, List.getElem_cons_succ, List.setIfInBounds_toArray, List.set_cons_zero, List.set_cons_succ]
                    refine wpAnyH_take (i := 6) (v := ?_) rfl (by kernel_rfl) (by kernel_rfl) (by kernel_rfl) (fun _ _ _ h => h) (Or.inl ⟨by rfl, ?_⟩) (by assumption) ?_
                    rotate_left
                    · intro w hSw
                      (try dsimp only at hSw)
                      obtain ⟨b0, b1, b2, b3⟩ := hSw
                      (try dsimp only at b0 b1 b2 b3)
                      go_simp
                      try (with_reducible rfl)
                    try simp only [Act.put, List.getElem_toArray, List.getElem_cons_zero, List.getElem_cons_succ, List.setIfInBounds_toArray, List.set_cons_zero, List.set_cons_succ]
                    refine wpAnyH_ready (rs := [2]) (by kernel_rfl) (by simp) ?_
                    refine AllReadyH.cons rfl (fun K hK => ?_) AllReadyH.nil
                    go_simp
                    refine (HD0.out.out_yes S F (F + 5) T HNO.out (by have := HFL.out; have := HK.out; show P.fl.length < 1048576; omega)).mono ?_
                    rintro e we ⟨rfl, hx⟩
                    have HE := Lib.hid hx
                    have S1 := Lib.hid (HBX.out.of_block hx.blk)
                    clear hx
                    refine hK.out _ _ S1.out (fun hHeld2 => ?_)
                    clear hK K hHeld S0 HD0
                    have hHeld := hHeld2
                    clear hHeld2
                    try simp only [Act.put, List.getElem_toArray, List.getElem_cons_zero, List.getElem_cons_succ, List.setIfInBounds_toArray, List.set_cons_zero, List.set_cons_succ]
                    refine wpAnyH_ready (rs := [7]) (by kernel_rfl) (by simp) ?_
                    refine AllReadyH.cons rfl (fun K hK => ?_) AllReadyH.nil
                    go_simp
                    refine (HE.out.dadd_yes S F (F + 5) T HNO.out (by have := HFL.out; have := HK.out; show P.fl.length < 1048576; omega)).mono ?_
                    rintro e wf ⟨rfl, hx⟩
                    have HG := Lib.hid hx
                    have S2 := Lib.hid (HBX.out.of_block hx.blk)
                    clear hx
                    refine hK.out _ _ S2.out (fun hHeld2 => ?_)
                    clear hK K hHeld S1 HE
                    have hHeld := hHeld2
                    clear hHeld2
                    try simp only [Act.put, List.getElem_toArray, List.getElem_cons_zero, List.getElem_cons_succ, List.setIfInBounds_toArray, List.set_cons_zero, List.set_cons_succ]
                    refine wpAnyH_take (i := 8) (v := ?_) rfl (by kernel_rfl) (by kernel_rfl) (by kernel_rfl) (fun _ _ _ h => h) (Or.inl ⟨by rfl, ?_⟩) (by assumption) ?_
                    rotate_left
                    · intro w hSw
                      (try dsimp only at hSw)
                      go_simp
                      try (with_reducible rfl)
                    try simp only [Act.put, List.getElem_toArray, List.getElem_cons_zero, List.getElem_cons_succ, List.setIfInBounds_toArray, List.set_cons_zero, List.set_cons_succ]
                    refine wpAnyH_done (by kernel_rfl) ?_ _
                    clear hHeld S2 HBX
                    go_wp2_with fail
                    go_meet
                    exact ⟨_, rfl, Lib.hid ⟨_, HG.out.pb, HFN.out.num.out HFL.out _ (by have := HT.out; show 0 ≤ T ∧ T ≤ 1000; omega)⟩⟩
        · as_aux_lemma =>
            have hs0 := HPB.out.okP.s1
            have hs1 := HFN.out.s
            have hc3 := HPB.out.c3
            obtain ⟨S, hS⟩ : ∃ S, P.sent = S := ⟨_, rfl⟩
            rw [hS] at hs0 hs1 hc3
            have HSB := Lib.hid (show 0 ≤ S ∧ S ≤ 50 by have := HK.out; omega)
            have s0 : 0 ≤ S := HSB.out.1
            have s1 : S ≤ 50 := HSB.out.2
            have HS2 := Lib.hid (show wrap64 (S + 2) = S + 2 from wrap_q rfl (by omega) (by omega))
            have HWI := Lib.hid (fun w => within_any n (S + 2) w (by have := HSB.out; omega) (by have := HSB.out; omega))
            obtain ⟨x, hx⟩ : ∃ x, n % (S + 2) = x := ⟨_, rfl⟩
            rw [hx] at HWI
            clear hS hs0 hs1 hx
            have b0 : (M == 0) = false := by rw [beq_eq_false_iff_ne]; omega
            have b1 : (M == 1) = false := by rw [beq_eq_false_iff_ne]; omega
            have b2 : (M == 2) = false := by rw [beq_eq_false_iff_ne]; omega
            have b3 : (M == 3) = false := by rw [beq_eq_false_iff_ne]; omega
            have b4 : (M == 4) = false := by rw [beq_eq_false_iff_ne]; omega
            have b5 : (M == 5) = false := by rw [beq_eq_false_iff_ne]; omega
            have b6 : (M == 6) = false := by rw [beq_eq_false_iff_ne]; omega
            have b7 : (M == 7) = false := by rw [beq_eq_false_iff_ne]; omega
            have b8 : (M == 8) = false := by rw [beq_eq_false_iff_ne]; omega
            go_upto_if 151 with (fail)
            go_cut [151] (fun bv wx => bv = .bool true ∧ wa = wx)
            case first =>
              as_aux_lemma =>
                rcases hM with rfl | rfl | rfl | rfl
                all_goals
                  go_wp2_with fail
                  go_meet
                  exact ⟨rfl, rfl⟩
            case rest =>
            obtain ⟨rfl, rfl⟩ := hcut
            clear hM
            rcases firstQ_or P.fl x with ⟨i9, hi9⟩ | hno
            · have HI9 := Lib.hid hi9
              clear hi9
              as_aux_lemma =>
                go_wp2_with fail
                go_quiet ((go_at_call 8; exact quiet_eq (HWI.out _)))
                have HD0 := Lib.hid (HPB.out.later (below_drP wa nq))
                go_wp2_with fail
                refine (HD0.out.acked x T i9 HI9.out (by have := HT.out; omega) (HFN.out.at HI9.out.lt)).mono ?_
                rintro e wb ⟨rfl, hx⟩
                have HE := Lib.hid hx
                clear hx HD0
                go_wp2_with fail
                refine (HE.out.dacked x T i9 HI9.out (by have := HT.out; omega) (HFN.out.at HI9.out.lt)).mono ?_
                rintro e wc ⟨rfl, hx⟩
                have HG := Lib.hid hx
                clear hx HE
                go_wp2_with fail
                go_meet
                exact ⟨_, rfl, Lib.hid ⟨_, HG.out.pb, (HFN.out.acked i9 T HI9.out.lt).next⟩⟩
            · have HNO := Lib.hid hno
              clear hno
              as_aux_lemma =>
                go_wp2_with fail
                go_quiet ((go_at_call 8; exact quiet_eq (HWI.out _)))
                have HD0 := Lib.hid (HPB.out.later (below_drP wa nq))
                go_wp2_with fail
                refine (HD0.out.acked_no x T HNO.out).mono ?_
                rintro e wb ⟨rfl, hx⟩
                have HE := Lib.hid hx
                clear hx HD0
                go_wp2_with fail
                refine (HE.out.dacked_no x T HNO.out).mono ?_
                rintro e wc ⟨rfl, hx⟩
                have HG := Lib.hid hx
                clear hx HE
                go_wp2_with fail
                go_meet
                exact ⟨_, rfl, Lib.hid ⟨_, HG.out.pb, HFN.out.next⟩⟩
        · as_aux_lemma =>
            obtain ⟨ln, hln⟩ : ∃ ln, (P.lates T).length = ln := ⟨_, rfl⟩
            have HLN := Lib.hid hln
            have HLB := Lib.hid (show ln ≤ 1099511627776 by have := HPB.out.okP.n; have h9 : (P.lates T).length ≤ P.fl.length := List.length_filter_le _ _; omega)
            clear hln
            rcases hM with rfl | rfl | rfl
            all_goals
              go_wp2_with fail
              refine (HPB.out.late T (by have := HT.out; omega) HLN.out).mono ?_
              rintro e wb ⟨A7, c7, rfl, hpl⟩
              have HPL := Lib.hid hpl
              clear hpl
              go_wp2_with fail
              refine (HPL.out.dlate T (by have := HT.out; omega) HLN.out).mono ?_
              rintro e wc ⟨A8, c8, rfl, hpb, ho, ho2⟩
              have HB := Lib.hid hpb
              have HS := Lib.hid (lsameQ_any ho ho2 HLB.out)
              clear hpb ho ho2 HPL
              go_wp2_with fail
              refine HS.out.mono ?_
              rintro e wd ⟨rfl, q9, rfl⟩
              have HNX := Lib.hid (HB.out.later (below_drP wc q9))
              clear HS HB
              go_wp2_with fail
              go_meet
              exact ⟨_, rfl, Lib.hid ⟨_, HNX.out, (HFN.out.lateN T).next⟩⟩
      case rest =>
      as_aux_lemma =>
        clear HPB x1 HFN
        obtain ⟨wx, rfl, hhd⟩ := hcut
        obtain ⟨P1, hpb, hfn⟩ := hhd.out
        clear hhd
        obtain ⟨n1, hn1⟩ : ∃ n, P1.fl.length = n := ⟨_, rfl⟩
        have HN1 := Lib.hid hn1
        have HFN := Lib.hid hfn
        obtain ⟨V, hV⟩ : ∃ V, wx.drew = V := ⟨_, rfl⟩
        have hv := hpb.later (below_drP wx 1)
        rw [show wx.drewN 1 = V from hV] at hv
        obtain ⟨qg, qw, A, c, hstc⟩ := hv.stc hn1
        have HSTC := Lib.hid hstc
        have HX0 := Lib.hid hv
        have HB0 := Lib.hid (Below.refl V.heap.size V)
        obtain ⟨M1, hM1⟩ : ∃ M, P1.state.length = M := ⟨_, rfl⟩
        have HML := Lib.hid hM1
        have HMB := Lib.hid (show P1.state.length ≤ maxLen by
          have h1 := hfn.n
          have h2 := HK.out
          have h3 : P1.state.length = 8 + n1 * 4 := by rw [← hn1]; simp only [Pa.state, List.length_append, flat_len]; rfl
          unfold maxLen
          omega)
        clear hpb hfn hv hstc hn1 hM1
        go_wp2_with fail
        simp only [List.append_eq, List.cons_append, List.nil_append]
        refine wp_region_held_drew (S := fun wi => StC wi r qg qw A n1 c P1.up P1.jo P1.be P1.sent P1.g.mean P1.wn.size) (by kernel_rfl) (by rw [hV]; exact HSTC.out V HB0.out) ?_
        intro hHeld
        rw [hV] at hHeld ⊢
        clear hV
        refine wpAnyH_take (i := 0) (v := ?_) rfl (by kernel_rfl) (by kernel_rfl) (by kernel_rfl) (fun _ _ _ h => h) (Or.inl ⟨by rfl, ?_⟩) (by assumption) ?_
        rotate_left
        · intro w hSw
          (try dsimp only at hSw)
          go_simp
          try (with_reducible rfl)
        try simp only [Act.put, List.getElem_toArray, List.getElem_cons_zero, List.setIfInBounds_toArray, List.set_cons_zero, List.set_cons_succ]
        refine wpAnyH_take (i := 2) (v := ?_) rfl (by kernel_rfl) (by kernel_rfl) (by kernel_rfl) (fun _ _ _ h => h) (Or.inl ⟨by rfl, ?_⟩) (by assumption) ?_
        rotate_left
        · intro w hSw
          (try dsimp only at hSw)
          go_simp
          try (with_reducible rfl)
        try simp only [Act.put, List.getElem_toArray, List.getElem_cons_zero, List.getElem_cons_succ, List.setIfInBounds_toArray, List.set_cons_zero, List.set_cons_succ]
        refine wpAnyH_take (i := 3) (v := ?_) rfl (by kernel_rfl) (by kernel_rfl) (by kernel_rfl) (fun _ _ _ h => h) (Or.inl ⟨by rfl, ?_⟩) (by assumption) ?_
        rotate_left
        · intro w hSw
          (try dsimp only at hSw)
          go_simp
          try (with_reducible rfl)
        try simp only [Act.put, List.getElem_toArray, List.getElem_cons_zero, List.getElem_cons_succ, List.setIfInBounds_toArray, List.set_cons_zero, List.set_cons_succ]
        refine wpAnyH_take (i := 4) (v := ?_) rfl (by kernel_rfl) (by kernel_rfl) (by kernel_rfl) (fun _ _ _ h => h) (Or.inl ⟨by rfl, ?_⟩) (by assumption) ?_
        rotate_left
        · intro w hSw
          (try dsimp only at hSw)
          go_simp
          try (with_reducible rfl)
        try simp only [Act.put, List.getElem_toArray, List.getElem_cons_zero, List.getElem_cons_succ, List.setIfInBounds_toArray, List.set_cons_zero, List.set_cons_succ]
        refine wpAnyH_take (i := 5) (v := ?_) rfl (by kernel_rfl) (by kernel_rfl) (by kernel_rfl) (fun _ _ _ h => h) (Or.inl ⟨by rfl, ?_⟩) (by assumption) ?_
        rotate_left
        · intro w hSw
          (try dsimp only at hSw)
          have c9 := hSw.c0
          clear hSw
          go_simp
          try (with_reducible rfl)
        try simp only [Act.put, List.getElem_toArray, List.getElem_cons_zero, List.getElem_cons_succ, List.setIfInBounds_toArray, List.set_cons_zero, List.set_cons_succ]
        refine wpAnyH_ready (rs := [1]) (by kernel_rfl) (by simp) ?_
        refine AllReadyH.cons rfl (fun K hK => ?_) AllReadyH.nil
        go_simp
        refine (HX0.out.isup).mono ?_
        rintro e v1 ⟨rfl, hb⟩
        have HX1 := Lib.hid (HX0.out.later hb)
        have HB1 := Lib.hid (HB0.out.trans (hb.mono HB0.out.size))
        clear hb HX0 HB0
        refine hK.out _ _ (HSTC.out _ HB1.out) (fun hHeld2 => ?_)
        clear hK K hHeld
        have hHeld := hHeld2
        clear hHeld2
        try simp only [Act.put, List.getElem_toArray, List.getElem_cons_zero, List.getElem_cons_succ, List.setIfInBounds_toArray, List.set_cons_zero, List.set_cons_succ]
        refine wpAnyH_take (i := 6) (v := ?_) rfl (by kernel_rfl) (by kernel_rfl) (by kernel_rfl) (fun _ _ _ h => h) (Or.inl ⟨by rfl, ?_⟩) (by assumption) ?_
        rotate_left
        · intro w hSw
          (try dsimp only at hSw)
          go_simp
          try (with_reducible rfl)
        try simp only [Act.put, List.getElem_toArray, List.getElem_cons_zero, List.getElem_cons_succ, List.setIfInBounds_toArray, List.set_cons_zero, List.set_cons_succ]
        refine wpAnyH_take (i := 7) (v := ?_) rfl (by kernel_rfl) (by kernel_rfl) (by kernel_rfl) (fun _ _ _ h => h) (Or.inl ⟨by rfl, ?_⟩) (by assumption) ?_
        rotate_left
        · intro w hSw
          (try dsimp only at hSw)
          go_simp
          try (with_reducible rfl)
        try simp only [Act.put, List.getElem_toArray, List.getElem_cons_zero, List.getElem_cons_succ, List.setIfInBounds_toArray, List.set_cons_zero, List.set_cons_succ]
        refine wpAnyH_take (i := 8) (v := ?_) rfl (by kernel_rfl) (by kernel_rfl) (by kernel_rfl) (fun _ _ _ h => h) (Or.inl ⟨by rfl, ?_⟩) (by assumption) ?_
        rotate_left
        · intro w hSw
          (try dsimp only at hSw)
          go_simp
          try (with_reducible rfl)
        try simp only [Act.put, List.getElem_toArray, List.getElem_cons_zero, List.getElem_cons_succ, List.setIfInBounds_toArray, List.set_cons_zero, List.set_cons_succ]
        refine wpAnyH_take (i := 10) (v := ?_) rfl (by kernel_rfl) (by kernel_rfl) (by kernel_rfl) (fun _ _ _ h => h) (Or.inl ⟨by rfl, ?_⟩) (by assumption) ?_
        rotate_left
        · intro w hSw
          (try dsimp only at hSw)
          go_simp
          try (with_reducible rfl)
        try simp only [Act.put, List.getElem_toArray, List.getElem_cons_zero, List.getElem_cons_succ, List.setIfInBounds_toArray, List.set_cons_zero, List.set_cons_succ]
        refine wpAnyH_take (i := 11) (v := ?_) rfl (by kernel_rfl) (by kernel_rfl) (by kernel_rfl) (fun _ _ _ h => h) (Or.inl ⟨by rfl, ?_⟩) (by assumption) ?_
        rotate_left
        · intro w hSw
          (try dsimp only at hSw)
          go_simp
          try (with_reducible rfl)
        try simp only [Act.put, List.getElem_toArray, List.getElem_cons_zero, List.getElem_cons_succ, List.setIfInBounds_toArray, List.set_cons_zero, List.set_cons_succ]
        refine wpAnyH_take (i := 12) (v := ?_) rfl (by kernel_rfl) (by kernel_rfl) (by kernel_rfl) (fun _ _ _ h => h) (Or.inl ⟨by rfl, ?_⟩) (by assumption) ?_
        rotate_left
        · intro w hSw
          (try dsimp only at hSw)
          go_simp
          try (with_reducible rfl)
        try simp only [Act.put, List.getElem_toArray, List.getElem_cons_zero, List.getElem_cons_succ, List.setIfInBounds_toArray, List.set_cons_zero, List.set_cons_succ]
        refine wpAnyH_take (i := 13) (v := ?_) rfl (by kernel_rfl) (by kernel_rfl) (by kernel_rfl) (fun _ _ _ h => h) (Or.inl ⟨by rfl, ?_⟩) (by assumption) ?_
        rotate_left
        · intro w hSw
          (try dsimp only at hSw)
          have c9 := hSw.c1
          clear hSw
          go_simp
          try (with_reducible rfl)
        try simp only [Act.put, List.getElem_toArray, List.getElem_cons_zero, List.getElem_cons_succ, List.setIfInBounds_toArray, List.set_cons_zero, List.set_cons_succ]
        refine wpAnyH_ready (rs := [9]) (by kernel_rfl) (by simp) ?_
        refine AllReadyH.cons rfl (fun K hK => ?_) AllReadyH.nil
        go_simp
        refine (HX1.out.joined).mono ?_
        rintro e v2 ⟨rfl, hb⟩
        have HX2 := Lib.hid (HX1.out.later hb)
        have HB2 := Lib.hid (HB1.out.trans (hb.mono HB1.out.size))
        clear hb HX1 HB1
        refine hK.out _ _ (HSTC.out _ HB2.out) (fun hHeld2 => ?_)
        clear hK K hHeld
        have hHeld := hHeld2
        clear hHeld2
        try simp only [Act.put, List.getElem_toArray, List.getElem_cons_zero, List.getElem_cons_succ, List.setIfInBounds_toArray, List.set_cons_zero, List.set_cons_succ]
        refine wpAnyH_take (i := 14) (v := ?_) rfl (by kernel_rfl) (by kernel_rfl) (by kernel_rfl) (fun _ _ _ h => h) (Or.inl ⟨by rfl, ?_⟩) (by assumption) ?_
        rotate_left
        · intro w hSw
          (try dsimp only at hSw)
          go_simp
          try (with_reducible rfl)
        try simp only [Act.put, List.getElem_toArray, List.getElem_cons_zero, List.getElem_cons_succ, List.setIfInBounds_toArray, List.set_cons_zero, List.set_cons_succ]
        refine wpAnyH_take (i := 15) (v := ?_) rfl (by kernel_rfl) (by kernel_rfl) (by kernel_rfl) (fun _ _ _ h => h) (Or.inl ⟨by rfl, ?_⟩) (by assumption) ?_
        rotate_left
        · intro w hSw
          (try dsimp only at hSw)
          go_simp
          try (with_reducible rfl)
        try simp only [Act.put, List.getElem_toArray, List.getElem_cons_zero, List.getElem_cons_succ, List.setIfInBounds_toArray, List.set_cons_zero, List.set_cons_succ]
        refine wpAnyH_take (i := 16) (v := ?_) rfl (by kernel_rfl) (by kernel_rfl) (by kernel_rfl) (fun _ _ _ h => h) (Or.inl ⟨by rfl, ?_⟩) (by assumption) ?_
        rotate_left
        · intro w hSw
          (try dsimp only at hSw)
          go_simp
          try (with_reducible rfl)
        try simp only [Act.put, List.getElem_toArray, List.getElem_cons_zero, List.getElem_cons_succ, List.setIfInBounds_toArray, List.set_cons_zero, List.set_cons_succ]
        refine wpAnyH_take (i := 17) (v := ?_) rfl (by kernel_rfl) (by kernel_rfl) (by kernel_rfl) (fun _ _ _ h => h) (Or.inl ⟨by rfl, ?_⟩) (by assumption) ?_
        rotate_left
        · intro w hSw
          (try dsimp only at hSw)
          go_simp
          try (with_reducible rfl)
        try simp only [Act.put, List.getElem_toArray, List.getElem_cons_zero, List.getElem_cons_succ, List.setIfInBounds_toArray, List.set_cons_zero, List.set_cons_succ]
        refine wpAnyH_take (i := 19) (v := ?_) rfl (by kernel_rfl) (by kernel_rfl) (by kernel_rfl) (fun _ _ _ h => h) (Or.inl ⟨by rfl, ?_⟩) (by assumption) ?_
        rotate_left
        · intro w hSw
          (try dsimp only at hSw)
          go_simp
          try (with_reducible rfl)
        try simp only [Act.put, List.getElem_toArray, List.getElem_cons_zero, List.getElem_cons_succ, List.setIfInBounds_toArray, List.set_cons_zero, List.set_cons_succ]
        refine wpAnyH_ready (rs := [18]) (by kernel_rfl) (by simp) ?_
        refine AllReadyH.cons rfl (fun K hK => ?_) AllReadyH.nil
        go_simp
        refine (HX2.out.usable).mono ?_
        rintro e v3 ⟨rfl, hb⟩
        have HX3 := Lib.hid (HX2.out.later hb)
        have HB3 := Lib.hid (HB2.out.trans (hb.mono HB2.out.size))
        clear hb HX2 HB2
        refine hK.out _ _ (HSTC.out _ HB3.out) (fun hHeld2 => ?_)
        clear hK K hHeld
        have hHeld := hHeld2
        clear hHeld2
        try simp only [Act.put, List.getElem_toArray, List.getElem_cons_zero, List.getElem_cons_succ, List.setIfInBounds_toArray, List.set_cons_zero, List.set_cons_succ]
        refine wpAnyH_ready (rs := [20]) (by kernel_rfl) (by simp) ?_
        refine AllReadyH.cons rfl (fun K hK => ?_) AllReadyH.nil
        go_simp
        refine (HX3.out.dusable).mono ?_
        rintro e v4 ⟨rfl, hb⟩
        have HX4 := Lib.hid (HX3.out.later hb)
        have HB4 := Lib.hid (HB3.out.trans (hb.mono HB3.out.size))
        clear hb HX3 HB3
        refine hK.out _ _ (HSTC.out _ HB4.out) (fun hHeld2 => ?_)
        clear hK K hHeld
        have hHeld := hHeld2
        clear hHeld2
        try simp only [Act.put, List.getElem_toArray, List.getElem_cons_zero, List.getElem_cons_succ, List.setIfInBounds_toArray, List.set_cons_zero, List.set_cons_succ]
        refine wpAnyH_take (i := 21) (v := ?_) rfl (by kernel_rfl) (by kernel_rfl) (by kernel_rfl) (fun _ _ _ h => h) (Or.inl ⟨by rfl, ?_⟩) (by assumption) ?_
        rotate_left
        · intro w hSw
          (try dsimp only at hSw)
          go_simp
          try (with_reducible rfl)
        try simp only [Act.put, List.getElem_toArray, List.getElem_cons_zero, List.getElem_cons_succ, List.setIfInBounds_toArray, List.set_cons_zero, List.set_cons_succ]
        refine wpAnyH_take (i := 22) (v := ?_) rfl (by kernel_rfl) (by kernel_rfl) (by kernel_rfl) (fun _ _ _ h => h) (Or.inl ⟨by rfl, ?_⟩) (by assumption) ?_
        rotate_left
        · intro w hSw
          (try dsimp only at hSw)
          go_simp
          try (with_reducible rfl)
        try simp only [Act.put, List.getElem_toArray, List.getElem_cons_zero, List.getElem_cons_succ, List.setIfInBounds_toArray, List.set_cons_zero, List.set_cons_succ]
        refine wpAnyH_take (i := 23) (v := ?_) rfl (by kernel_rfl) (by kernel_rfl) (by kernel_rfl) (fun _ _ _ h => h) (Or.inl ⟨by rfl, ?_⟩) (by assumption) ?_
        rotate_left
        · intro w hSw
          (try dsimp only at hSw)
          go_simp
          try (with_reducible rfl)
        try simp only [Act.put, List.getElem_toArray, List.getElem_cons_zero, List.getElem_cons_succ, List.setIfInBounds_toArray, List.set_cons_zero, List.set_cons_succ]
        refine wpAnyH_take (i := 24) (v := ?_) rfl (by kernel_rfl) (by kernel_rfl) (by kernel_rfl) (fun _ _ _ h => h) (Or.inl ⟨by rfl, ?_⟩) (by assumption) ?_
        rotate_left
        · intro w hSw
          (try dsimp only at hSw)
          go_simp
          try (with_reducible rfl)
        try simp only [Act.put, List.getElem_toArray, List.getElem_cons_zero, List.getElem_cons_succ, List.setIfInBounds_toArray, List.set_cons_zero, List.set_cons_succ]
        refine wpAnyH_take (i := 26) (v := ?_) rfl (by kernel_rfl) (by kernel_rfl) (by kernel_rfl) (fun _ _ _ h => h) (Or.inl ⟨by rfl, ?_⟩) (by assumption) ?_
        rotate_left
        · intro w hSw
          (try dsimp only at hSw)
          go_simp
          try (with_reducible rfl)
        try simp only [Act.put, List.getElem_toArray, List.getElem_cons_zero, List.getElem_cons_succ, List.setIfInBounds_toArray, List.set_cons_zero, List.set_cons_succ]
        refine wpAnyH_take (i := 27) (v := ?_) rfl (by kernel_rfl) (by kernel_rfl) (by kernel_rfl) (fun _ _ _ h => h) (Or.inl ⟨by rfl, ?_⟩) (by assumption) ?_
        rotate_left
        · intro w hSw
          (try dsimp only at hSw)
          go_simp
          try (with_reducible rfl)
        try simp only [Act.put, List.getElem_toArray, List.getElem_cons_zero, List.getElem_cons_succ, List.setIfInBounds_toArray, List.set_cons_zero, List.set_cons_succ]
        refine wpAnyH_take (i := 28) (v := ?_) rfl (by kernel_rfl) (by kernel_rfl) (by kernel_rfl) (fun _ _ _ h => h) (Or.inl ⟨by rfl, ?_⟩) (by assumption) ?_
        rotate_left
        · intro w hSw
          (try dsimp only at hSw)
          go_simp
          try (with_reducible rfl)
        try simp only [Act.put, List.getElem_toArray, List.getElem_cons_zero, List.getElem_cons_succ, List.setIfInBounds_toArray, List.set_cons_zero, List.set_cons_succ]
        refine wpAnyH_take (i := 29) (v := ?_) rfl (by kernel_rfl) (by kernel_rfl) (by kernel_rfl) (fun _ _ _ h => h) (Or.inl ⟨by rfl, ?_⟩) (by assumption) ?_
        rotate_left
        · intro w hSw
          (try dsimp only at hSw)
          have c9 := hSw.c2
          clear hSw
          go_simp
          try (with_reducible rfl)
        try simp only [Act.put, List.getElem_toArray, List.getElem_cons_zero, List.getElem_cons_succ, List.setIfInBounds_toArray, List.set_cons_zero, List.set_cons_succ]
        refine wpAnyH_ready (rs := [25]) (by kernel_rfl) (by simp) ?_
        refine AllReadyH.cons rfl (fun K hK => ?_) AllReadyH.nil
        go_simp
        refine (HX4.out.behind).mono ?_
        rintro e v5 ⟨rfl, hb⟩
        have HX5 := Lib.hid (HX4.out.later hb)
        have HB5 := Lib.hid (HB4.out.trans (hb.mono HB4.out.size))
        clear hb HX4 HB4
        refine hK.out _ _ (HSTC.out _ HB5.out) (fun hHeld2 => ?_)
        clear hK K hHeld
        have hHeld := hHeld2
        clear hHeld2
        try simp only [Act.put, List.getElem_toArray, List.getElem_cons_zero, List.getElem_cons_succ, List.setIfInBounds_toArray, List.set_cons_zero, List.set_cons_succ]
        refine wpAnyH_take (i := 30) (v := ?_) rfl (by kernel_rfl) (by kernel_rfl) (by kernel_rfl) (fun _ _ _ h => h) (Or.inl ⟨by rfl, ?_⟩) (by assumption) ?_
        rotate_left
        · intro w hSw
          (try dsimp only at hSw)
          go_simp
          try (with_reducible rfl)
        try simp only [Act.put, List.getElem_toArray, List.getElem_cons_zero, List.getElem_cons_succ, List.setIfInBounds_toArray, List.set_cons_zero, List.set_cons_succ]
        refine wpAnyH_take (i := 31) (v := ?_) rfl (by kernel_rfl) (by kernel_rfl) (by kernel_rfl) (fun _ _ _ h => h) (Or.inl ⟨by rfl, ?_⟩) (by assumption) ?_
        rotate_left
        · intro w hSw
          (try dsimp only at hSw)
          go_simp
          try (with_reducible rfl)
        try simp only [Act.put, List.getElem_toArray, List.getElem_cons_zero, List.getElem_cons_succ, List.setIfInBounds_toArray, List.set_cons_zero, List.set_cons_succ]
        refine wpAnyH_take (i := 32) (v := ?_) rfl (by kernel_rfl) (by kernel_rfl) (by kernel_rfl) (fun _ _ _ h => h) (Or.inl ⟨by rfl, ?_⟩) (by assumption) ?_
        rotate_left
        · intro w hSw
          (try dsimp only at hSw)
          go_simp
          try (with_reducible rfl)
        try simp only [Act.put, List.getElem_toArray, List.getElem_cons_zero, List.getElem_cons_succ, List.setIfInBounds_toArray, List.set_cons_zero, List.set_cons_succ]
        refine wpAnyH_take (i := 33) (v := ?_) rfl (by kernel_rfl) (by kernel_rfl) (by kernel_rfl) (fun _ _ _ h => h) (Or.inl ⟨by rfl, ?_⟩) (by assumption) ?_
        rotate_left
        · intro w hSw
          (try dsimp only at hSw)
          go_simp
          try (with_reducible rfl)
        try simp only [Act.put, List.getElem_toArray, List.getElem_cons_zero, List.getElem_cons_succ, List.setIfInBounds_toArray, List.set_cons_zero, List.set_cons_succ]
        refine wpAnyH_take (i := 35) (v := ?_) rfl (by kernel_rfl) (by kernel_rfl) (by kernel_rfl) (fun _ _ _ h => h) (Or.inl ⟨by rfl, ?_⟩) (by assumption) ?_
        rotate_left
        · intro w hSw
          (try dsimp only at hSw)
          go_simp
          try (with_reducible rfl)
        try simp only [Act.put, List.getElem_toArray, List.getElem_cons_zero, List.getElem_cons_succ, List.setIfInBounds_toArray, List.set_cons_zero, List.set_cons_succ]
        refine wpAnyH_take (i := 36) (v := ?_) rfl (by kernel_rfl) (by kernel_rfl) (by kernel_rfl) (fun _ _ _ h => h) (Or.inl ⟨by rfl, ?_⟩) (by assumption) ?_
        rotate_left
        · intro w hSw
          (try dsimp only at hSw)
          go_simp
          try (with_reducible rfl)
        try simp only [Act.put, List.getElem_toArray, List.getElem_cons_zero, List.getElem_cons_succ, List.setIfInBounds_toArray, List.set_cons_zero, List.set_cons_succ]
        refine wpAnyH_take (i := 37) (v := ?_) rfl (by kernel_rfl) (by kernel_rfl) (by kernel_rfl) (fun _ _ _ h => h) (Or.inl ⟨by rfl, ?_⟩) (by assumption) ?_
        rotate_left
        · intro w hSw
          (try dsimp only at hSw)
          go_simp
          try (with_reducible rfl)
        try simp only [Act.put, List.getElem_toArray, List.getElem_cons_zero, List.getElem_cons_succ, List.setIfInBounds_toArray, List.set_cons_zero, List.set_cons_succ]
        refine wpAnyH_take (i := 38) (v := ?_) rfl (by kernel_rfl) (by kernel_rfl) (by kernel_rfl) (fun _ _ _ h => h) (Or.inl ⟨by rfl, ?_⟩) (by assumption) ?_
        rotate_left
        · intro w hSw
          (try dsimp only at hSw)
          have c9 := hSw.c4
          clear hSw
          go_simp
          try (with_reducible rfl)
        try simp only [Act.put, List.getElem_toArray, List.getElem_cons_zero, List.getElem_cons_succ, List.setIfInBounds_toArray, List.set_cons_zero, List.set_cons_succ]
        refine wpAnyH_take (i := 39) (v := ?_) rfl (by kernel_rfl) (by kernel_rfl) (by kernel_rfl) (fun _ _ _ h => h) (Or.inl ⟨by rfl, ?_⟩) (by assumption) ?_
        rotate_left
        · intro w hSw
          (try dsimp only at hSw)
          go_simp
          try (with_reducible rfl)
        try simp only [Act.put, List.getElem_toArray, List.getElem_cons_zero, List.getElem_cons_succ, List.setIfInBounds_toArray, List.set_cons_zero, List.set_cons_succ]
        refine wpAnyH_take (i := 40) (v := ?_) rfl (by kernel_rfl) (by kernel_rfl) (by kernel_rfl) (fun _ _ _ h => h) (Or.inl ⟨by rfl, ?_⟩) (by assumption) ?_
        rotate_left
        · intro w hSw
          (try dsimp only at hSw)
          go_simp
          try (with_reducible rfl)
        try simp only [Act.put, List.getElem_toArray, List.getElem_cons_zero, List.getElem_cons_succ, List.setIfInBounds_toArray, List.set_cons_zero, List.set_cons_succ]
        refine wpAnyH_take (i := 41) (v := ?_) rfl (by kernel_rfl) (by kernel_rfl) (by kernel_rfl) (fun _ _ _ h => h) (Or.inl ⟨by rfl, ?_⟩) (by assumption) ?_
        rotate_left
        · intro w hSw
          (try dsimp only at hSw)
          have c9 := hSw.g1
          clear hSw
          go_simp
          try (with_reducible rfl)
        try simp only [Act.put, List.getElem_toArray, List.getElem_cons_zero, List.getElem_cons_succ, List.setIfInBounds_toArray, List.set_cons_zero, List.set_cons_succ]
        refine wpAnyH_ready (rs := [34]) (by kernel_rfl) (by simp) ?_
        refine AllReadyH.cons rfl (fun K hK => ?_) AllReadyH.nil
        go_simp
        refine (HX5.out.mean).mono ?_
        rintro e v6 ⟨rfl, hb⟩
        have HX6 := Lib.hid (HX5.out.later hb)
        have HB6 := Lib.hid (HB5.out.trans (hb.mono HB5.out.size))
        clear hb HX5 HB5
        refine hK.out _ _ (HSTC.out _ HB6.out) (fun hHeld2 => ?_)
        clear hK K hHeld
        have hHeld := hHeld2
        clear hHeld2
        try simp only [Act.put, List.getElem_toArray, List.getElem_cons_zero, List.getElem_cons_succ, List.setIfInBounds_toArray, List.set_cons_zero, List.set_cons_succ]
        refine wpAnyH_take (i := 42) (v := ?_) rfl (by kernel_rfl) (by kernel_rfl) (by kernel_rfl) (fun _ _ _ h => h) (Or.inl ⟨by rfl, ?_⟩) (by assumption) ?_
        rotate_left
        · intro w hSw
          (try dsimp only at hSw)
          go_simp
          try (with_reducible rfl)
        try simp only [Act.put, List.getElem_toArray, List.getElem_cons_zero, List.getElem_cons_succ, List.setIfInBounds_toArray, List.set_cons_zero, List.set_cons_succ]
        refine wpAnyH_take (i := 43) (v := ?_) rfl (by kernel_rfl) (by kernel_rfl) (by kernel_rfl) (fun _ _ _ h => h) (Or.inl ⟨by rfl, ?_⟩) (by assumption) ?_
        rotate_left
        · intro w hSw
          (try dsimp only at hSw)
          go_simp
          try (with_reducible rfl)
        try simp only [Act.put, List.getElem_toArray, List.getElem_cons_zero, List.getElem_cons_succ, List.setIfInBounds_toArray, List.set_cons_zero, List.set_cons_succ]
        refine wpAnyH_take (i := 44) (v := ?_) rfl (by kernel_rfl) (by kernel_rfl) (by kernel_rfl) (fun _ _ _ h => h) (Or.inl ⟨by rfl, ?_⟩) (by assumption) ?_
        rotate_left
        · intro w hSw
          (try dsimp only at hSw)
          go_simp
          try (with_reducible rfl)
        try simp only [Act.put, List.getElem_toArray, List.getElem_cons_zero, List.getElem_cons_succ, List.setIfInBounds_toArray, List.set_cons_zero, List.set_cons_succ]
        refine wpAnyH_take (i := 45) (v := ?_) rfl (by kernel_rfl) (by kernel_rfl) (by kernel_rfl) (fun _ _ _ h => h) (Or.inl ⟨by rfl, ?_⟩) (by assumption) ?_
        rotate_left
        · intro w hSw
          (try dsimp only at hSw)
          go_simp
          try (with_reducible rfl)
        try simp only [Act.put, List.getElem_toArray, List.getElem_cons_zero, List.getElem_cons_succ, List.setIfInBounds_toArray, List.set_cons_zero, List.set_cons_succ]
        refine wpAnyH_take (i := 47) (v := ?_) rfl (by kernel_rfl) (by kernel_rfl) (by kernel_rfl) (fun _ _ _ h => h) (Or.inl ⟨by rfl, ?_⟩) (by assumption) ?_
        rotate_left
        · intro w hSw
          (try dsimp only at hSw)
          go_simp
          try (with_reducible rfl)
        try simp only [Act.put, List.getElem_toArray, List.getElem_cons_zero, List.getElem_cons_succ, List.setIfInBounds_toArray, List.set_cons_zero, List.set_cons_succ]
        refine wpAnyH_take (i := 48) (v := ?_) rfl (by kernel_rfl) (by kernel_rfl) (by kernel_rfl) (fun _ _ _ h => h) (Or.inl ⟨by rfl, ?_⟩) (by assumption) ?_
        rotate_left
        · intro w hSw
          (try dsimp only at hSw)
          go_simp
          try (with_reducible rfl)
        try simp only [Act.put, List.getElem_toArray, List.getElem_cons_zero, List.getElem_cons_succ, List.setIfInBounds_toArray, List.set_cons_zero, List.set_cons_succ]
        refine wpAnyH_take (i := 49) (v := ?_) rfl (by kernel_rfl) (by kernel_rfl) (by kernel_rfl) (fun _ _ _ h => h) (Or.inl ⟨by rfl, ?_⟩) (by assumption) ?_
        rotate_left
        · intro w hSw
          (try dsimp only at hSw)
          go_simp
          try (with_reducible rfl)
        try simp only [Act.put, List.getElem_toArray, List.getElem_cons_zero, List.getElem_cons_succ, List.setIfInBounds_toArray, List.set_cons_zero, List.set_cons_succ]
        refine wpAnyH_take (i := 50) (v := ?_) rfl (by kernel_rfl) (by kernel_rfl) (by kernel_rfl) (fun _ _ _ h => h) (Or.inl ⟨by rfl, ?_⟩) (by assumption) ?_
        rotate_left
        · intro w hSw
          (try dsimp only at hSw)
          go_simp
          try (with_reducible rfl)
        try simp only [Act.put, List.getElem_toArray, List.getElem_cons_zero, List.getElem_cons_succ, List.setIfInBounds_toArray, List.set_cons_zero, List.set_cons_succ]
        refine wpAnyH_take (i := 51) (v := ?_) rfl (by kernel_rfl) (by kernel_rfl) (by kernel_rfl) (fun _ _ _ h => h) (Or.inl ⟨by rfl, ?_⟩) (by assumption) ?_
        rotate_left
        · intro w hSw
          (try dsimp only at hSw)
          have c9 := hSw.c6
          clear hSw
          go_simp
          try (with_reducible rfl)
        try simp only [Act.put, List.getElem_toArray, List.getElem_cons_zero, List.getElem_cons_succ, List.setIfInBounds_toArray, List.set_cons_zero, List.set_cons_succ]
        refine wpAnyH_take (i := 52) (v := ?_) rfl (by kernel_rfl) (by kernel_rfl) (by kernel_rfl) (fun _ _ _ h => h) (Or.inl ⟨by rfl, ?_⟩) (by assumption) ?_
        rotate_left
        · intro w hSw
          (try dsimp only at hSw)
          go_simp
          try (with_reducible rfl)
        try simp only [Act.put, List.getElem_toArray, List.getElem_cons_zero, List.getElem_cons_succ, List.setIfInBounds_toArray, List.set_cons_zero, List.set_cons_succ]
        refine wpAnyH_ready (rs := [46]) (by kernel_rfl) (by simp) ?_
        refine AllReadyH.cons rfl (fun K hK => ?_) AllReadyH.nil
        go_simp
        refine (HX6.out.len HN1.out).mono ?_
        rintro e v7 ⟨rfl, hb⟩
        have HX7 := Lib.hid (HX6.out.later hb)
        have HB7 := Lib.hid (HB6.out.trans (hb.mono HB6.out.size))
        clear hb HX6 HB6
        refine hK.out _ _ (HSTC.out _ HB7.out) (fun hHeld2 => ?_)
        clear hK K hHeld
        have hHeld := hHeld2
        clear hHeld2
        try simp only [Act.put, List.getElem_toArray, List.getElem_cons_zero, List.getElem_cons_succ, List.setIfInBounds_toArray, List.set_cons_zero, List.set_cons_succ]
        refine wpAnyH_take (i := 53) (v := ?_) rfl (by kernel_rfl) (by kernel_rfl) (by kernel_rfl) (fun _ _ _ h => h) (Or.inl ⟨by rfl, ?_⟩) (by assumption) ?_
        rotate_left
        · intro w hSw
          (try dsimp only at hSw)
          go_simp
          try (with_reducible rfl)
        try simp only [Act.put, List.getElem_toArray, List.getElem_cons_zero, List.getElem_cons_succ, List.setIfInBounds_toArray, List.set_cons_zero, List.set_cons_succ]
        refine wpAnyH_take (i := 54) (v := ?_) rfl (by kernel_rfl) (by kernel_rfl) (by kernel_rfl) (fun _ _ _ h => h) (Or.inl ⟨by rfl, ?_⟩) (by assumption) ?_
        rotate_left
        · intro w hSw
          (try dsimp only at hSw)
          go_simp
          try (with_reducible rfl)
        try simp only [Act.put, List.getElem_toArray, List.getElem_cons_zero, List.getElem_cons_succ, List.setIfInBounds_toArray, List.set_cons_zero, List.set_cons_succ]
        refine wpAnyH_take (i := 55) (v := ?_) rfl (by kernel_rfl) (by kernel_rfl) (by kernel_rfl) (fun _ _ _ h => h) (Or.inl ⟨by rfl, ?_⟩) (by assumption) ?_
        rotate_left
        · intro w hSw
          (try dsimp only at hSw)
          go_simp
          try (with_reducible rfl)
        try simp only [Act.put, List.getElem_toArray, List.getElem_cons_zero, List.getElem_cons_succ, List.setIfInBounds_toArray, List.set_cons_zero, List.set_cons_succ]
        refine wpAnyH_take (i := 56) (v := ?_) rfl (by kernel_rfl) (by kernel_rfl) (by kernel_rfl) (fun _ _ _ h => h) (Or.inl ⟨by rfl, ?_⟩) (by assumption) ?_
        rotate_left
        · intro w hSw
          (try dsimp only at hSw)
          go_simp
          try (with_reducible rfl)
        try simp only [Act.put, List.getElem_toArray, List.getElem_cons_zero, List.getElem_cons_succ, List.setIfInBounds_toArray, List.set_cons_zero, List.set_cons_succ]
        refine wpAnyH_take (i := 58) (v := ?_) rfl (by kernel_rfl) (by kernel_rfl) (by kernel_rfl) (fun _ _ _ h => h) (Or.inl ⟨by rfl, ?_⟩) (by assumption) ?_
        rotate_left
        · intro w hSw
          (try dsimp only at hSw)
          go_simp
          try (with_reducible rfl)
        try simp only [Act.put, List.getElem_toArray, List.getElem_cons_zero, List.getElem_cons_succ, List.setIfInBounds_toArray, List.set_cons_zero, List.set_cons_succ]
        refine wpAnyH_take (i := 59) (v := ?_) rfl (by kernel_rfl) (by kernel_rfl) (by kernel_rfl) (fun _ _ _ h => h) (Or.inl ⟨by rfl, ?_⟩) (by assumption) ?_
        rotate_left
        · intro w hSw
          (try dsimp only at hSw)
          go_simp
          try (with_reducible rfl)
        try simp only [Act.put, List.getElem_toArray, List.getElem_cons_zero, List.getElem_cons_succ, List.setIfInBounds_toArray, List.set_cons_zero, List.set_cons_succ]
        refine wpAnyH_take (i := 60) (v := ?_) rfl (by kernel_rfl) (by kernel_rfl) (by kernel_rfl) (fun _ _ _ h => h) (Or.inl ⟨by rfl, ?_⟩) (by assumption) ?_
        rotate_left
        · intro w hSw
          (try dsimp only at hSw)
          go_simp
          try (with_reducible rfl)
        try simp only [Act.put, List.getElem_toArray, List.getElem_cons_zero, List.getElem_cons_succ, List.setIfInBounds_toArray, List.set_cons_zero, List.set_cons_succ]
        refine wpAnyH_take (i := 61) (v := ?_) rfl (by kernel_rfl) (by kernel_rfl) (by kernel_rfl) (fun _ _ _ h => h) (Or.inl ⟨by rfl, ?_⟩) (by assumption) ?_
        rotate_left
        · intro w hSw
          (try dsimp only at hSw)
          have c9 := hSw.c3
          clear hSw
          go_simp
          try (with_reducible rfl)
        try simp only [Act.put, List.getElem_toArray, List.getElem_cons_zero, List.getElem_cons_succ, List.setIfInBounds_toArray, List.set_cons_zero, List.set_cons_succ]
        refine wpAnyH_ready (rs := [57]) (by kernel_rfl) (by simp) ?_
        refine AllReadyH.cons rfl (fun K hK => ?_) AllReadyH.nil
        go_simp
        refine (HX7.out.sent).mono ?_
        rintro e v8 ⟨rfl, hb⟩
        have HX8 := Lib.hid (HX7.out.later hb)
        have HB8 := Lib.hid (HB7.out.trans (hb.mono HB7.out.size))
        clear hb HX7 HB7
        refine hK.out _ _ (HSTC.out _ HB8.out) (fun hHeld2 => ?_)
        clear hK K hHeld
        have hHeld := hHeld2
        clear hHeld2
        try simp only [Act.put, List.getElem_toArray, List.getElem_cons_zero, List.getElem_cons_succ, List.setIfInBounds_toArray, List.set_cons_zero, List.set_cons_succ]
        refine wpAnyH_take (i := 62) (v := ?_) rfl (by kernel_rfl) (by kernel_rfl) (by kernel_rfl) (fun _ _ _ h => h) (Or.inl ⟨by rfl, ?_⟩) (by assumption) ?_
        rotate_left
        · intro w hSw
          (try dsimp only at hSw)
          go_simp
          try (with_reducible rfl)
        try simp only [Act.put, List.getElem_toArray, List.getElem_cons_zero, List.getElem_cons_succ, List.setIfInBounds_toArray, List.set_cons_zero, List.set_cons_succ]
        refine wpAnyH_take (i := 63) (v := ?_) rfl (by kernel_rfl) (by kernel_rfl) (by kernel_rfl) (fun _ _ _ h => h) (Or.inl ⟨by rfl, ?_⟩) (by assumption) ?_
        rotate_left
        · intro w hSw
          (try dsimp only at hSw)
          go_simp
          try (with_reducible rfl)
        try simp only [Act.put, List.getElem_toArray, List.getElem_cons_zero, List.getElem_cons_succ, List.setIfInBounds_toArray, List.set_cons_zero, List.set_cons_succ]
        refine wpAnyH_take (i := 64) (v := ?_) rfl (by kernel_rfl) (by kernel_rfl) (by kernel_rfl) (fun _ _ _ h => h) (Or.inl ⟨by rfl, ?_⟩) (by assumption) ?_
        rotate_left
        · intro w hSw
          (try dsimp only at hSw)
          go_simp
          try (with_reducible rfl)
        try simp only [Act.put, List.getElem_toArray, List.getElem_cons_zero, List.getElem_cons_succ, List.setIfInBounds_toArray, List.set_cons_zero, List.set_cons_succ]
        refine wpAnyH_take (i := 65) (v := ?_) rfl (by kernel_rfl) (by kernel_rfl) (by kernel_rfl) (fun _ _ _ h => h) (Or.inl ⟨by rfl, ?_⟩) (by assumption) ?_
        rotate_left
        · intro w hSw
          (try dsimp only at hSw)
          go_simp
          try (with_reducible rfl)
        try simp only [Act.put, List.getElem_toArray, List.getElem_cons_zero, List.getElem_cons_succ, List.setIfInBounds_toArray, List.set_cons_zero, List.set_cons_succ]
        refine wpAnyH_take (i := 67) (v := ?_) rfl (by kernel_rfl) (by kernel_rfl) (by kernel_rfl) (fun _ _ _ h => h) (Or.inl ⟨by rfl, ?_⟩) (by assumption) ?_
        rotate_left
        · intro w hSw
          (try dsimp only at hSw)
          go_simp
          try (with_reducible rfl)
        try simp only [Act.put, List.getElem_toArray, List.getElem_cons_zero, List.getElem_cons_succ, List.setIfInBounds_toArray, List.set_cons_zero, List.set_cons_succ]
        refine wpAnyH_ready (rs := [66]) (by kernel_rfl) (by simp) ?_
        refine AllReadyH.cons rfl (fun K hK => ?_) AllReadyH.nil
        go_simp
        refine (HX8.out.state HML.out).mono ?_
        rintro e v9 ⟨A7, c7, rfl, ho, hb⟩
        have HX9 := Lib.hid (HX8.out.later hb)
        have HB9 := Lib.hid (HB8.out.trans (hb.mono HB8.out.size))
        have HO := Lib.hid ho
        clear hb HX8 HB8 ho
        refine hK.out _ _ (HSTC.out _ HB9.out) (fun hHeld2 => ?_)
        clear hK K hHeld
        have hHeld := hHeld2
        clear hHeld2
        try simp only [Act.put, List.getElem_toArray, List.getElem_cons_zero, List.getElem_cons_succ, List.setIfInBounds_toArray, List.set_cons_zero, List.set_cons_succ]
        refine wpAnyH_ready (rs := [68]) (by kernel_rfl) (by simp) ?_
        refine AllReadyH.cons rfl (fun K hK => ?_) AllReadyH.nil
        go_simp
        refine (HX9.out.dstate HML.out).mono ?_
        rintro e v10 ⟨A8, c8, rfl, ho, hb⟩
        have HX10 := Lib.hid (HX9.out.later hb)
        have HB10 := Lib.hid (HB9.out.trans (hb.mono HB9.out.size))
        have HS := Lib.hid (sameI_true (c := c7) (d := c8) P1.state HML.out HML.out (HO.out.later hb).rd ho.rd HMB.out)
        clear hb HX9 HB9 ho HO
        refine hK.out _ _ (HSTC.out _ HB10.out) (fun hHeld2 => ?_)
        clear hK K hHeld
        have hHeld := hHeld2
        clear hHeld2
        try simp only [Act.put, List.getElem_toArray, List.getElem_cons_zero, List.getElem_cons_succ, List.setIfInBounds_toArray, List.set_cons_zero, List.set_cons_succ]
        refine wpAnyH_ready (rs := [69]) (by kernel_rfl) (by simp) ?_
        refine AllReadyH.cons rfl (fun K hK => ?_) AllReadyH.nil
        go_simp
        refine (HS.out).mono ?_
        rintro e v11 ⟨rfl, hk9⟩
        have hb := bel_k hk9
        have HX11 := Lib.hid (HX10.out.later hb)
        have HB11 := Lib.hid (HB10.out.trans (hb.mono HB10.out.size))
        clear hb HX10 HB10 hk9 HS
        refine hK.out _ _ (HSTC.out _ HB11.out) (fun hHeld2 => ?_)
        clear hK K hHeld
        have hHeld := hHeld2
        clear hHeld2
        try simp only [Act.put, List.getElem_toArray, List.getElem_cons_zero, List.getElem_cons_succ, List.setIfInBounds_toArray, List.set_cons_zero, List.set_cons_succ]
        refine wpAnyH_take (i := 70) (v := ?_) rfl (by kernel_rfl) (by kernel_rfl) (by kernel_rfl) (fun _ _ _ h => h) (Or.inl ⟨by rfl, ?_⟩) (by assumption) ?_
        rotate_left
        · intro w hSw
          (try dsimp only at hSw)
          go_simp
          try (with_reducible rfl)
        try simp only [Act.put, List.getElem_toArray, List.getElem_cons_zero, List.getElem_cons_succ, List.setIfInBounds_toArray, List.set_cons_zero, List.set_cons_succ]
        refine wpAnyH_take (i := 71) (v := ?_) rfl (by kernel_rfl) (by kernel_rfl) (by kernel_rfl) (fun _ _ _ h => h) (Or.inl ⟨by rfl, ?_⟩) (by assumption) ?_
        rotate_left
        · intro w hSw
          (try dsimp only at hSw)
          go_simp
          try (with_reducible rfl)
        try simp only [Act.put, List.getElem_toArray, List.getElem_cons_zero, List.getElem_cons_succ, List.setIfInBounds_toArray, List.set_cons_zero, List.set_cons_succ]
        refine wpAnyH_done (by kernel_rfl) ?_ _
        clear hHeld
        go_wp2_with fail
        go_roundw
        case rel => exact ⟨k + 1, T, by have := HK.out; omega, rfl, by first | rfl | (rw [HIW.out]) | go_num, HT.out.1, by have := HT.out; push_cast; omega, Lib.hid ⟨_, HX11.out, HFN.out⟩⟩
        case measure => (try rw [HIW.out]); have := HK.out; simp [intOf]; omega
    · as_aux_lemma =>
        have HB := Lib.hid hpb.bel
        clear hpb hfn
        rcases (show ¬ k < len1 ∨ (k < len1 ∧ ¬ k < 50) by omega) with t0 | ⟨t0, t1⟩
        · have i0 : ¬ ((k : Int) < (len1 : Int)) := by omega
          go_wp2_with fail
          refine (wakes18_any _).mono ?_
          rintro e w9 ⟨rfl, hb⟩
          have HB9 := Lib.hid (HB.out.trans (hb.mono HB.out.size))
          clear hb
          go_wp2
          go_ret
          exact ⟨rfl, HB9.out⟩
        · have i0 : (k : Int) < (len1 : Int) := by omega
          have i1 : ¬ ((k : Int) < 50) := by omega
          go_wp2_with fail
          refine (wakes18_any _).mono ?_
          rintro e w9 ⟨rfl, hb⟩
          have HB9 := Lib.hid (HB.out.trans (hb.mono HB.out.size))
          clear hb
          go_wp2
          go_ret
          exact ⟨rfl, HB9.out⟩
end Go.Proofs.Ytlkoenlimdfifaa
