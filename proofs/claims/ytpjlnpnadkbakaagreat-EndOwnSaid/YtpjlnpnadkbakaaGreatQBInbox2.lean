/-
  What mayEnd and Read of package inbox do: contracts over the program.
-/
import Derived.Test.YtpjlnpnadkbakaaGreatQBInbox
import Derived.Lib.AppendZerosOnto
import Derived.Test.YtpjlnpnadkbakaaGreatQBMem
namespace Go.Proofs.YtpjlnpnadkbakaaGreat
set_option maxRecDepth 10000
open Go.RowKit
section
variable {w : World} {B p q g n : Nat} {v : Value} {xs : List Int} {ps : List (Int × Int)} {s : In}
set_option maxHeartbeats 400000 in
theorem ibmay_any (h : IbAt w B p q g n v xs ps s) (k : Int) (b : Bool) (hb : b = true ↔ s.ends k) : Calls Tryz.prog 150 #[.pointer (some ⟨p, 0, none⟩), .int .i64 k] w fun e w' => e = .returned (.bool b) ∧ Below w.heap.size w w' := by
  have c3 := h.c3
  have c1 := h.c1
  have e0 := h.ok.e0
  have hpl := h.plen
  have HALL := Lib.hid (allset_any q v ps B w h.set hpl)
  have HTOP := Lib.hid (show 0 ≤ k → (topOf ps ≤ k ↔ ∀ j, k ≤ j → s.g j = none) from fun hk => by
    obtain ⟨ys, hr⟩ := rep_of h.set.norm h.ok h.iff
    exact top_iff hr k hk)
  unfold In.ends at hb
  obtain ⟨en, hen⟩ : ∃ x, s.en = x := ⟨_, rfl⟩
  rw [hen] at c3 e0 hb
  obtain ⟨N, hN⟩ : ∃ N, ps.length = N := ⟨_, rfl⟩
  rw [hN] at HALL hpl
  have HN := Lib.hid hN
  clear h hen hN
  have h0 : ∀ P : Prop, (b = true ↔ P) → ¬ P → b = false := fun P h1 h2 => by cases b with | false => rfl | true => exact absurd (h1.1 rfl) h2
  by_cases q1 : en = -1
  · by_cases q2 : k < 0
    · obtain rfl := h0 _ hb (fun x => by omega)
      subst q1
      clear hb h0 hpl
      go_enter Tryz.func150, Tryz.ntmps150
      go_wp2
      go_ret
      exact ⟨rfl, Below.refl _ _⟩
    · by_cases q3 : k > 4096
      · obtain rfl := h0 _ hb (fun x => by omega)
        subst q1
        clear hb h0 hpl
        go_enter Tryz.func150, Tryz.ntmps150
        go_wp2
        go_ret
        exact ⟨rfl, Below.refl _ _⟩
      · have hb2 : b = true ↔ topOf ps ≤ k := by
          rw [hb, HTOP.out (by omega)]
          exact ⟨fun x => x.2.2.2, fun x => ⟨by omega, by omega, by omega, x⟩⟩
        have HB2 := Lib.hid hb2
        subst q1
        clear hb h0 hb2
        by_cases hn0 : N = 0
        · subst hn0
          have hbt : b = true := HB2.out.2 (by rw [List.eq_nil_of_length_eq_zero HN.out]; simp [topOf]; omega)
          subst hbt
          clear hpl HB2
          go_enter Tryz.func150, Tryz.ntmps150
          go_wp2_with fail
          refine HALL.out.mono ?_
          rintro e w1 ⟨A', c', rfl, -, hbl⟩
          have HBL := Lib.hid hbl
          clear hbl
          go_wp2
          go_ret
          exact ⟨rfl, HBL.out⟩
        · obtain ⟨n', hn'⟩ : ∃ n', N = n' + 1 := ⟨N - 1, by omega⟩
          have HNN := Lib.hid hn'
          have hbt : b = decide ((ps.getD n' (0, 0)).2 ≤ k) := by
            rw [← top_get (HN.out.trans hn')]
            cases b with
            | false => symm; exact decide_eq_false (fun x => by have := HB2.out.2 x; cases this)
            | true => symm; exact decide_eq_true (HB2.out.1 rfl)
          obtain ⟨T, hT⟩ : ∃ T, (ps.getD n' (0, 0)).2 = T := ⟨_, rfl⟩
          rw [hT] at hbt
          have HT := Lib.hid hT
          have hsub : wrap64 ((N : Int) - 1) = (n' : Int) := wrap_at (by omega) (by omega) (by omega)
          have HS := Lib.hid hsub
          have g2 : (n' : Int) < (N : Int) := by omega
          have g3 : (0 : Int) ≤ (n' : Int) := by omega
          have g4 : ¬ ((N : Int) = 0) := by omega
          clear hn' hT hpl hsub
          subst hbt
          go_enter Tryz.func150, Tryz.ntmps150
          go_wp2_with fail
          refine HALL.out.mono ?_
          rintro e w1 ⟨A', c', rfl, ho, hbl⟩
          obtain ⟨gg, rfl, -, -⟩ := ho.at (by have := HNN.out; omega)
          have y2 := (ho.cells n' (by have := HNN.out; omega)).2
          rw [HT.out] at y2
          have HBL := Lib.hid hbl
          clear hbl ho
          have hsub := HS.out
          by_cases q5 : T ≤ k
          · have HD := Lib.hid (decide_eq_true q5)
            go_wp2
            go_ret
            exact ⟨ret_b (by simp [HD.out]), HBL.out⟩
          · have HD := Lib.hid (decide_eq_false q5)
            go_wp2
            go_ret
            exact ⟨ret_b (by simp [HD.out, hn0]), HBL.out⟩
  · obtain rfl := h0 _ hb (fun x => by omega)
    clear hb h0 hpl e0
    go_enter Tryz.func150, Tryz.ntmps150
    go_wp2
    go_ret
    exact ⟨rfl, Below.refl _ _⟩
structure RdM (w wr : World) (B p q g n : Nat) (v : Value) (xs : List Int) (ps : List (Int × Int)) (s : In) (gb k j : Nat) : Prop where
  ib : IbAt wr B p q g n v xs ps s
  bel : Below w.heap.size w wr
  ge : w.heap.size ≤ gb
  el : ∀ b, Ibf p q g v b → b < w.heap.size
  row : ∃ L, Own .u8 5 wr w.heap.size (.slice (some ⟨gb, 0, none⟩) k k) L ∧ L.length = k ∧ ∀ i : Nat, i < j → s.g (s.tk + (i : Int)) = some (L.getD i 0)
theorem RdM.drew {w0 : World} {gb k j : Nat} (h : RdM w0 w B p q g n v xs ps s gb k j) : RdM w0 w.drew B p q g n v xs ps s gb k j :=
  ⟨h.ib.drewN 1, ⟨h.bel.os, h.bel.tape, h.bel.output, h.bel.size, h.bel.block⟩, h.ge, h.el, h.row⟩
theorem RdM.old {w0 : World} {gb k j : Nat} (h : RdM w0 w B p q g n v xs ps s gb k j) (hj : j < k) : ∃ y, w.cell? ⟨gb, j, none⟩ = some (.int .u8 y) ∧ w.frozen? ⟨gb, j, none⟩ = false := by
  obtain ⟨L, ho, hl, _⟩ := h.row
  obtain ⟨g', he, _, _, _, hc, hfr⟩ := ho.block (by omega)
  obtain ⟨rfl⟩ : gb = g' := by injection he with he; injection he
  exact ⟨_, hc j hj, hfr j⟩
theorem RdM.step {w0 : World} {gb k j : Nat} (h : RdM w0 w B p q g n v xs ps s gb k j) (hj : j < k) {x : Int} (hx : s.g (s.tk + (j : Int)) = some x) : RdM w0 (w.setCell ⟨gb, j, none⟩ (.int .u8 x)) B p q g n v xs ps s gb k (j + 1) := by
  obtain ⟨L, ho, hl, hd⟩ := h.row
  have hne : ∀ b, Ibf p q g v b → ¬ (gb = b) := fun b hb e => by
    have h1 := h.el b hb
    have h2 := h.ge
    omega
  refine ⟨h.ib.kept (Trn.of_grown (setCell_one w gb j _)) (fun b hb e => hne b hb (Option.some.inj e)), ?_, h.ge, h.el, L.set j x, ho.stored hl j x, by rw [List.length_set]; exact hl, fun i hi => ?_⟩
  · exact ⟨h.bel.os, h.bel.tape, h.bel.output, by simpa using h.bel.size, fun b hb => (heap_setCell_other _ _ _ _ (by have := h.ge; intro e; simp at e; omega)).trans (h.bel.block b hb)⟩
  · by_cases e : i = j
    · subst e
      rw [hx]
      simp [List.getD_eq_getElem?_getD, List.getElem?_set_self (show i < L.length by omega)]
    · rw [hd i (by omega)]
      simp only [List.getD_eq_getElem?_getD, List.getElem?_set_ne (show j ≠ i by omega)]
set_option maxHeartbeats 2000000 in
theorem ibread_any (h : IbAt w B p q g n v xs ps s) (m f : Int) (hf : Front s.g f) (k : Nat) (hk : (k : Int) = min (max m 0) (f - s.tk)) (hb : f ≤ 1048576) :
    Calls Tryz.prog 87 #[.pointer (some ⟨p, 0, none⟩), .int .i64 m] w fun e w' => ∃ A' c' L, e = .returned (.slice A' k c') ∧ Own .u8 5 w' w.heap.size (.slice A' k c') L ∧ IsRead s.g s.tk k L ∧ IbAt w' B p q g n v xs ps (s.read k) ∧ SC w w' (Ibf p q g v) (Ibf p q g v) := by
  have htk := In.front_tk h.ok hf
  have ht0 := h.ok.t0
  have hrok := In.read_ok h.ok hf (k := k) (by omega) (by omega)
  have m1 := run_max2 m 0 _ rfl
  obtain ⟨M, hM⟩ : ∃ M, max m 0 = M := ⟨_, rfl⟩
  rw [hM] at m1 hk
  have m2 := run_min2 M (f - s.tk) _ rfl
  rw [← hk] at m2
  have hmk : ∀ w, (Instr.makeSlice 29 (.int .i64 (k : Int)) (.int .i64 (k : Int))).run Tryz.prog w = .ok (.slice (some ⟨w.heap.size, 0, none⟩) k k) (w.alloc (.cells (bts (List.replicate k 0)) 5)) := fun w => by
    have := run_make_row' (P := Tryz.prog) 29 5 (.int .u8 0) 1 Tryz.underlying29 info_byte rfl .i64 .i64 k (by omega) (by omega) w
    rw [madeByte] at this
    rw [this]
    simp only [bts, List.map_replicate]
  have HRY := Lib.hid (ibready_any h f hf (by omega))
  have HST := Lib.hid (show ∀ W, Below w.heap.size w W → RdM w (W.alloc (.cells (bts (List.replicate k 0)) 5)) B p q g n v xs ps s W.heap.size k 0 from fun W hW => by
    have ho := Own.new W (List.replicate k 0) 5 (by rw [List.length_replicate]; unfold maxLen; omega)
    simp only [List.length_replicate] at ho
    exact ⟨h.later (hW.alloc hW.size _), hW.alloc hW.size _, hW.size, fun b hb => (h.foot_lt b hb).2, _, ho.less hW.size, List.length_replicate, fun i hi => by omega⟩)
  have HBY := Lib.hid (show ∀ j : Nat, j < k → ∃ r x, ((s.tk + (j : Int)) % (n : Int)) = ((r : Nat) : Int) ∧ r < n ∧ s.g (s.tk + (j : Int)) = some x ∧ xs.getD r 0 = x from fun j hj => by
    have h1 := hf.all (s.tk + j) (by omega) (by omega)
    obtain ⟨x, hx⟩ := Option.ne_none_iff_exists'.1 h1
    have hr := h.ring.2 (s.tk + j) x (by omega) hx
    have hn1 := h.n1
    have b1 := Int.emod_nonneg (s.tk + (j : Int)) (show (n : Int) ≠ 0 by omega)
    have b2 := Int.emod_lt_of_pos (s.tk + (j : Int)) (show 0 < (n : Int) by omega)
    rw [← h.win] at hr
    exact ⟨((s.tk + (j : Int)) % (n : Int)).toNat, x, by omega, by omega, hx, hr⟩)
  have HCELL := Lib.hid (show ∀ W, IbAt W B p q g n v xs ps s → ∀ r, r < n → W.cell? ⟨g, r, none⟩ = some (.int .u8 (xs.getD r 0)) from fun W hI r hr => by
    obtain ⟨g', he, _, _, _, hc, _⟩ := hI.own.block (by have := hI.n1; omega)
    obtain ⟨rfl⟩ : g = g' := by injection he with he; injection he
    exact hc r hr)
  have H := Lib.hid h
  have HRK := Lib.hid hrok
  obtain ⟨T, hT⟩ : ∃ T : Nat, s.tk = T := ⟨s.tk.toNat, by omega⟩
  obtain ⟨TK, hTK⟩ : ∃ T2 : Nat, T2 = T + k := ⟨_, rfl⟩
  have HTT := Lib.hid hT
  have HTK := Lib.hid hTK
  have HBD := Lib.hid (show T + k ≤ 1048576 by omega)
  have HW := Lib.hid (show wrap64 ((T : Int) + (k : Int)) = (TK : Int) from wrap_at (by omega) (by omega) (by omega))
  have HN1 := Lib.hid h.n1
  clear h hf hk hb htk ht0 hrok hM hT hTK
  go_enter Tryz.func87, Tryz.ntmps87
  go_wp2_with fail
  refine HRY.out.mono ?_
  rintro e w1 ⟨rfl, hb1⟩
  have hs0 := HST.out w1 hb1
  obtain ⟨gb, hgb⟩ : ∃ z, w1.heap.size = z := ⟨_, rfl⟩
  rw [hgb] at hs0
  have HGB := Lib.hid hgb
  have HS0 := Lib.hid hs0
  clear hs0 hb1 HRY HST hgb
  go_wp2_with fail
  rw [HGB.out]
  go_loopw [16] (fun iv wr => ∃ (j : Nat), j ≤ k ∧ iv = .int .i64 j ∧ Hid (RdM w wr B p q g n v xs ps s gb k j)) (fun iv _ => k - (intOf iv).toNat)
  case atStart => exact ⟨0, by omega, rfl, HS0⟩
  case round =>
    clear HS0
    obtain ⟨j, hj, rfl, hmid⟩ := hrel
    by_cases hjk : j < k
    · obtain ⟨r, x, hr1, hr2, hr3, hr4⟩ := HBY.out j hjk
      rw [HTT.out] at hr1
      have HNX := Lib.hid (RdM.step hmid.out.drew hjk hr3)
      have HM := Lib.hid hmid.out.drew
      have HJ := Lib.hid hjk
      have i1 : (j : Int) < (k : Int) := by omega
      have i2 : (0 : Int) ≤ (j : Int) := by omega
      have r1 : (r : Int) < (n : Int) := by omega
      have r2 : (0 : Int) ≤ (r : Int) := by omega
      have n1 : ¬ (n = 0) := by omega
      have HTJ := Lib.hid (show wrap64 ((T : Int) + (j : Int)) = (T : Int) + (j : Int) from wrap_at rfl (by omega) (by have := HBD.out; omega))
      have HR1 := Lib.hid ((Int.tmod_eq_emod_of_nonneg (show 0 ≤ (T : Int) + (j : Int) by omega)).trans hr1)
      have HR4 := Lib.hid hr4
      have HJN := Lib.hid (show wrap64 ((j : Int) + 1) = ((j + 1 : Nat) : Int) from wrap_at (by omega) (by omega) (by have := HBD.out; omega))
      clear hr1 hr2 hr3 hr4 hmid hj hjk
      go_wp2_with fail
      refine wp_region_held_drew (S := fun wi => wi.cell? ⟨p, 0, none⟩ = some (.slice (some ⟨g, 0, none⟩) n n) ∧ wi.cell? ⟨p, 0 + 2, none⟩ = some (.int .i64 T) ∧ wi.cell? ⟨g, r, none⟩ = some (.int .u8 x)) (by kernel_rfl) ?_ ?_
      · have h0 := HM.out.ib.c2
        rw [HTT.out] at h0
        exact ⟨HM.out.ib.c0, h0, by have := HCELL.out _ HM.out.ib r (by omega); rw [HR4.out] at this; exact this⟩
      intro hHeld
      obtain ⟨y, h1, h2⟩ := HM.out.old HJ.out
      have hS3 : (wr.drew.setCell ⟨gb, j, none⟩ (.int .u8 x)).cell? ⟨p, 0, none⟩ = some (.slice (some ⟨g, 0, none⟩) n n) ∧ (wr.drew.setCell ⟨gb, j, none⟩ (.int .u8 x)).cell? ⟨p, 0 + 2, none⟩ = some (.int .i64 T) ∧ (wr.drew.setCell ⟨gb, j, none⟩ (.int .u8 x)).cell? ⟨g, r, none⟩ = some (.int .u8 x) := by
        have h0 := HNX.out.ib.c2
        rw [HTT.out] at h0
        exact ⟨HNX.out.ib.c0, h0, by have := HCELL.out _ HNX.out.ib r (by omega); rw [HR4.out] at this; exact this⟩
      obtain ⟨W, hW⟩ : ∃ W, wr.drew = W := ⟨_, rfl⟩
      rw [hW] at hHeld HNX h1 h2 hS3 ⊢
      have HS3 := Lib.hid hS3
      clear hW HM hS3
      refine tkH 0 ?_
      refine tkH 1 ?_
      refine tkH 2 ?_
      refine tkH 3 ?_
      refine tkH 4 ?_
      refine wpAnyH_take (i := 5) (v := ?_) rfl (by kernel_rfl) (by kernel_rfl) (by kernel_rfl) (fun _ _ _ h => h) (Or.inl ⟨by rfl, ?_⟩) (by assumption) ?_
      rotate_left
      · intro w hSw
        (try dsimp only at hSw)
        have c9 := hSw.1
        clear hSw
        go_simp
        try (with_reducible rfl)
      try simp only [Act.put, List.getElem_toArray, List.getElem_cons_zero, List.getElem_cons_succ, List.setIfInBounds_toArray, List.set_cons_zero, List.set_cons_succ]
      refine tkH 6 ?_
      refine tkH 7 ?_
      refine tkH 8 ?_
      refine wpAnyH_take (i := 9) (v := ?_) rfl (by kernel_rfl) (by kernel_rfl) (by kernel_rfl) (fun _ _ _ h => h) (Or.inl ⟨by rfl, ?_⟩) (by assumption) ?_
      rotate_left
      · intro w hSw
        (try dsimp only at hSw)
        have c9 := hSw.2.1
        clear hSw
        go_simp
        try (with_reducible rfl)
      try simp only [Act.put, List.getElem_toArray, List.getElem_cons_zero, List.getElem_cons_succ, List.setIfInBounds_toArray, List.set_cons_zero, List.set_cons_succ]
      refine tkH 10 ?_
      have hw2 := HTJ.out
      have hw3 : IntKind.i64.wrap ((T : Int) + (j : Int)) = (T : Int) + (j : Int) := (IntWalk.i64_left _).trans hw2
      refine tkH 11 ?_
      refine tkH 12 ?_
      refine tkH 13 ?_
      refine tkH 14 ?_
      refine wpAnyH_take (i := 15) (v := ?_) rfl (by kernel_rfl) (by kernel_rfl) (by kernel_rfl) (fun _ _ _ h => h) (Or.inl ⟨by rfl, ?_⟩) (by assumption) ?_
      rotate_left
      · intro w hSw
        (try dsimp only at hSw)
        have c9 := hSw.1
        clear hSw
        go_simp
        try (with_reducible rfl)
      try simp only [Act.put, List.getElem_toArray, List.getElem_cons_zero, List.getElem_cons_succ, List.setIfInBounds_toArray, List.set_cons_zero, List.set_cons_succ]
      refine tkH 16 ?_
      clear hw2 hw3
      have hrr := HR1.out
      refine tkH 17 ?_
      clear hrr
      refine tkH 18 ?_
      refine wpAnyH_take (i := 19) (v := ?_) rfl (by kernel_rfl) (by kernel_rfl) (by kernel_rfl) (fun _ _ _ h => h) (Or.inl ⟨by rfl, ?_⟩) (by assumption) ?_
      rotate_left
      · intro w hSw
        (try dsimp only at hSw)
        have c9 := hSw.2.2
        clear hSw
        go_simp
        try (with_reducible rfl)
      try simp only [Act.put, List.getElem_toArray, List.getElem_cons_zero, List.getElem_cons_succ, List.setIfInBounds_toArray, List.set_cons_zero, List.set_cons_succ]
      refine tkH 20 ?_
      refine wpAnyH_ready (rs := [21]) (by kernel_rfl) (by simp) ?_
      refine AllReadyH.cons rfl (fun K hK => ?_) AllReadyH.nil
      go_simp
      refine hK.out _ _ HS3.out (fun hHeld2 => ?_)
      clear hK K hHeld
      have hHeld := hHeld2
      clear hHeld2
      try simp only [Act.put, List.getElem_toArray, List.getElem_cons_zero, List.getElem_cons_succ, List.setIfInBounds_toArray, List.set_cons_zero, List.set_cons_succ]
      refine wpAnyH_done (by kernel_rfl) ?_ _
      go_wp2
      go_roundw
      case rel => exact ⟨j + 1, by have := HJ.out; omega, by first | rfl | (rw [HJN.out]) | go_num, HNX⟩
      case measure => (try rw [HJN.out]); have := HJ.out; simp [intOf]; omega
    · have : j = k := by omega
      subst this
      have d2 := hmid.out.ib.c2
      have f2 := hmid.out.ib.fr (0 + 2)
      rw [HTT.out] at d2
      obtain ⟨L, ho, hl, hd⟩ := hmid.out.row
      have hs := hmid.out.ib.set2 (k := (j : Int)) (by omega) HRK.out
      rw [show s.tk + (j : Int) = (TK : Int) by have := HTT.out; have := HTK.out; omega] at hs
      have HFIN := Lib.hid hs
      have HO := Lib.hid (show Own .u8 5 (wr.setCell ⟨p, 0 + 2, none⟩ (.int .i64 (TK : Int))) w.heap.size (.slice (some ⟨gb, 0, none⟩) j j) L from ho.kept (setCell_one _ _ _ _) (.inr (fun e => by
        have h1 : gb = p := Option.some.inj e
        have := hmid.out.ge
        have := H.out.lt
        omega)))
      have HIR := Lib.hid (show IsRead s.g s.tk j L from ⟨hl, hd⟩)
      have HSC := Lib.hid (show SC w (wr.setCell ⟨p, 0 + 2, none⟩ (.int .i64 (TK : Int))) (Ibf p q g v) (Ibf p q g v) from (sc_later hmid.out.bel).trans (sc_ibf _ _))
      have i1 : ¬ ((j : Int) < (j : Int)) := by omega
      clear hmid ho hl hd hs hj hjk
      have hw := HW.out
      go_wp2
      go_ret
      exact ⟨_, _, rfl, L, HO.out, HIR.out, HFIN.out, HSC.out⟩
end
end Go.Proofs.YtpjlnpnadkbakaaGreat
