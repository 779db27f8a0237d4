/-
  What Check and New of the developers' End do: contracts over the program.
-/
import Derived.Test.YtpjlnpnadkbakaaGreatQBPrEn9
import Derived.Deep.CutBlock
import Derived.Deep.DeepCutAuto
import Derived.Test.YtpjlnpnadkbakaaGreatQBMem
namespace Go.Proofs.YtpjlnpnadkbakaaGreat
set_option maxRecDepth 10000
open Go.RowKit
def inR (n m : Int) : Bool := decide (1 ≤ n) && decide (n ≤ m)
def Cg.ok (c : Cg) : Bool := inR c.np 3 && inR c.buf 400 && inR c.win 400 && inR c.chk 64 && inR c.most 16 && inR c.first 64 && inR c.sched 3
theorem ewithin_any (n m : Int) (w : World) : Calls Tryz.prog 101 #[.int .i64 n, .int .i64 m] w fun e w' => e = .returned (.bool (inR n m)) ∧ w = w' := by
  by_cases h1 : 1 ≤ n
  · have h1' : decide (1 ≤ n) = true := decide_eq_true h1
    by_cases h2 : n ≤ m
    · have h2' : decide (n ≤ m) = true := decide_eq_true h2
      have hr : inR n m = true := by unfold inR; rw [h1', h2']; rfl
      rw [hr]
      clear hr
      go_enter Tryz.func101, Tryz.ntmps101
      go_wp2
      go_ret
      exact ⟨rfl, rfl⟩
    · have h2' : decide (n ≤ m) = false := decide_eq_false h2
      have hr : inR n m = false := by unfold inR; rw [h1', h2']; rfl
      rw [hr]
      clear hr
      go_enter Tryz.func101, Tryz.ntmps101
      go_wp2
      go_ret
      exact ⟨rfl, rfl⟩
  · have h1' : decide (1 ≤ n) = false := decide_eq_false h1
    have hr : inR n m = false := by unfold inR; rw [h1']; rfl
    rw [hr]
    clear hr
    go_enter Tryz.func101, Tryz.ntmps101
    go_wp2
    go_ret
    exact ⟨by simp, rfl⟩
set_option maxHeartbeats 4000000 in
theorem echeck_any (np buf win chk most first sched : Int) (w : World) : Calls Tryz.prog 40 #[.agg #[.int .i64 np, .int .i64 buf, .int .i64 win, .int .i64 chk, .int .i64 most, .int .i64 first, .int .i64 sched]] w fun e w' => e = .returned (.int .i64 (if Cg.ok ⟨np, buf, win, chk, most, first, sched⟩ then 0 else 1)) ∧ Below w.heap.size w w' := by
  have hC : Cg.ok ⟨np, buf, win, chk, most, first, sched⟩ = (inR np 3 && inR buf 400 && inR win 400 && inR chk 64 && inR most 16 && inR first 64 && inR sched 3) := rfl
  rw [hC]
  have HB := Lib.hid (show Below w.heap.size w (w.alloc (.cells #[.int .i64 np, .int .i64 buf, .int .i64 win, .int .i64 chk, .int .i64 most, .int .i64 first, .int .i64 sched] 26)) from (Below.refl _ _).alloc (Nat.le_refl _) _)
  have HW := Lib.hid (fun (n m : Int) (W : World) => ewithin_any n m W)
  cases h0 : inR np 3
  · clear hC
    go_enter Tryz.func40, Tryz.ntmps40
    go_wp2_with (go_at_call 101; refine (HW.out _ _ _).mono ?_; rintro e w' ⟨rfl, rfl⟩)
    go_ret
    exact ⟨by first | rfl | simp [*], HB.out⟩
  · cases h1 : inR buf 400
    · clear hC
      go_enter Tryz.func40, Tryz.ntmps40
      go_wp2_with (go_at_call 101; refine (HW.out _ _ _).mono ?_; rintro e w' ⟨rfl, rfl⟩)
      go_ret
      exact ⟨by first | rfl | simp [*], HB.out⟩
    · cases h2 : inR win 400
      · clear hC
        go_enter Tryz.func40, Tryz.ntmps40
        go_wp2_with (go_at_call 101; refine (HW.out _ _ _).mono ?_; rintro e w' ⟨rfl, rfl⟩)
        go_ret
        exact ⟨by first | rfl | simp [*], HB.out⟩
      · cases h3 : inR chk 64
        · clear hC
          go_enter Tryz.func40, Tryz.ntmps40
          go_wp2_with (go_at_call 101; refine (HW.out _ _ _).mono ?_; rintro e w' ⟨rfl, rfl⟩)
          go_ret
          exact ⟨by first | rfl | simp [*], HB.out⟩
        · cases h4 : inR most 16
          · clear hC
            go_enter Tryz.func40, Tryz.ntmps40
            go_wp2_with (go_at_call 101; refine (HW.out _ _ _).mono ?_; rintro e w' ⟨rfl, rfl⟩)
            go_ret
            exact ⟨by first | rfl | simp [*], HB.out⟩
          · cases h5 : inR first 64
            · clear hC
              go_enter Tryz.func40, Tryz.ntmps40
              go_wp2_with (go_at_call 101; refine (HW.out _ _ _).mono ?_; rintro e w' ⟨rfl, rfl⟩)
              go_ret
              exact ⟨by first | rfl | simp [*], HB.out⟩
            · cases h6 : inR sched 3
              · clear hC
                go_enter Tryz.func40, Tryz.ntmps40
                go_wp2_with (go_at_call 101; refine (HW.out _ _ _).mono ?_; rintro e w' ⟨rfl, rfl⟩)
                go_ret
                exact ⟨by first | rfl | simp [*], HB.out⟩
              · clear hC
                go_enter Tryz.func40, Tryz.ntmps40
                go_wp2_with (go_at_call 101; refine (HW.out _ _ _).mono ?_; rintro e w' ⟨rfl, rfl⟩)
                go_ret
                exact ⟨by first | rfl | simp [*], HB.out⟩
def EeNew (w : World) (L : Lab) (K : Nat) (c : Cg) (side : Int) (e : Ending) (w' : World) : Prop := ∃ (b : Nat) (s : EeS) (L' : Lab), e = .returned (.tuple #[.pointer (some ⟨b, 0, none⟩), .int .i64 0]) ∧ w.heap.size ≤ b ∧ EE w' L' K b s (En.new c side) ∧ Tn w w' L L' No
def EeNw (w : World) (L : Lab) (K : Nat) (c : Cg) (side : Int) (b : Nat) (wr : World) (j : Nat) : Prop := ∃ (s : EeS) (L' : Lab), EE wr L' K b s (En.part c side j) ∧ Tn w wr L L' No ∧ RgS w [.int .i64 c.np, .int .i64 c.buf, .int .i64 c.win, .int .i64 c.chk, .int .i64 c.most, .int .i64 c.first, .int .i64 c.sched] wr ∧ L' w.heap.size = 0
set_option maxHeartbeats 8000000 in
theorem newee_any (n : Nat) (buf win chk most first sched side : Int) (w : World) (L : Lab) (K : Nat) (hK : K ≠ 0) (hok : Cg.ok ⟨(n : Int), buf, win, chk, most, first, sched⟩ = true) (hsd : side = 0 ∨ side = 1) (hL : ∀ k, k < w.heap.size → ¬ Es K (L k)) :
    Calls Tryz.prog 31 #[.agg #[.int .i64 (n : Int), .int .i64 buf, .int .i64 win, .int .i64 chk, .int .i64 most, .int .i64 first, .int .i64 sched], .int .i64 side] w (EeNew w L K ⟨(n : Int), buf, win, chk, most, first, sched⟩ side) := by
  have hn : 1 ≤ n ∧ n ≤ 3 := by
    have : inR (n : Int) 3 = true := by
      unfold Cg.ok at hok
      simp only [Bool.and_eq_true] at hok
      exact hok.1.1.1.1.1.1
    unfold inR at this
    simp at this
    omega
  have HNN := Lib.hid hn
  have HLL := Lib.hid hL
  have hmk := hmk_int n (by omega)
  have HN0 := Lib.hid (NeS.new w [.int .i64 (n : Int), .int .i64 buf, .int .i64 win, .int .i64 chk, .int .i64 most, .int .i64 first, .int .i64 sched] 26)
  obtain ⟨w0, hw0⟩ : ∃ w0, w.alloc (.cells #[.int .i64 (n : Int), .int .i64 buf, .int .i64 win, .int .i64 chk, .int .i64 most, .int .i64 first, .int .i64 sched] 26) = w0 := ⟨_, rfl⟩
  have hr0 : w0.rangeAt w.heap.size 0 [.int .i64 (n : Int), .int .i64 buf, .int .i64 win, .int .i64 chk, .int .i64 most, .int .i64 first, .int .i64 sched] := by rw [← hw0]; exact alloc_rangeE w [.int .i64 (n : Int), .int .i64 buf, .int .i64 win, .int .i64 chk, .int .i64 most, .int .i64 first, .int .i64 sched] 26
  have hb0 : Below w.heap.size w w0 := by rw [← hw0]; exact (Below.refl _ _).alloc (Nat.le_refl _) _
  have hz0 : w0.heap.size = w.heap.size + 1 := by rw [← hw0]; simp
  have hck := echeck_any (n : Int) buf win chk most first sched w0
  rw [hok] at hck
  have HCK := Lib.hid (show Calls Tryz.prog 40 #[.agg #[.int .i64 (n : Int), .int .i64 buf, .int .i64 win, .int .i64 chk, .int .i64 most, .int .i64 first, .int .i64 sched]] w0 fun e w' => e = .returned (.int .i64 0) ∧ Below w0.heap.size w0 w' from hck)
  have HQ := Lib.hid (And.intro hr0 (And.intro hb0 hz0))
  have z0 : w0.cell? ⟨w.heap.size, 0, none⟩ = some (.int .i64 (n : Int)) := hr0 0 _ rfl
  have z1 : w0.cell? ⟨w.heap.size, 0 + 1, none⟩ = some (.int .i64 buf) := hr0 1 _ rfl
  have z2 : w0.cell? ⟨w.heap.size, 0 + 2, none⟩ = some (.int .i64 win) := hr0 2 _ rfl
  have z3 : w0.cell? ⟨w.heap.size, 0 + 3, none⟩ = some (.int .i64 chk) := hr0 3 _ rfl
  have z4 : w0.cell? ⟨w.heap.size, 0 + 4, none⟩ = some (.int .i64 most) := hr0 4 _ rfl
  have z5 : w0.cell? ⟨w.heap.size, 0 + 5, none⟩ = some (.int .i64 first) := hr0 5 _ rfl
  have z6 : w0.cell? ⟨w.heap.size, 0 + 6, none⟩ = some (.int .i64 sched) := hr0 6 _ rfl
  have s1 : (side != 0 && side != 1) = false := by rcases hsd with rfl | rfl <;> rfl
  clear hL hn hok hr0 hb0 hz0 hck HN0
  go_enter Tryz.func31, Tryz.ntmps31
  go_wp2_with fail
  clear z0 z1 z2 z3 z4 z5 z6
  refine HCK.out.mono ?_
  rintro e w1 ⟨rfl, hb1⟩
  obtain ⟨hr0, hb0, hz0⟩ := HQ.out
  have HNE := Lib.hid (show NeS w [.int .i64 (n : Int), .int .i64 buf, .int .i64 win, .int .i64 chk, .int .i64 most, .int .i64 first, .int .i64 sched] w1.drew from ⟨(hb0.trans (hb1.mono hb0.size)).drew, by have := hb1.size; simp; omega, rangeAt_later (rangeAt_later hr0 hb1 (by omega)) (Below.refl w1.heap.size w1).drew (by have := hb1.size; omega)⟩)
  clear hr0 hb0 hz0 hb1 HCK HQ hw0
  go_upto_region 4 with (fail)
  go_cut [18] (fun v wx => v = .bool false ∧ w1 = wx)
  case first =>
    rcases hsd with rfl | rfl
    · go_wp2
      go_meet
      exact ⟨by first | rfl | simp, rfl⟩
    · go_wp2
      go_meet
      exact ⟨by first | rfl | simp, rfl⟩
  case rest =>
  obtain ⟨rfl, rfl⟩ := hcut
  go_upto_region 6 with (fail)
  go_cut [7] (fun v wx => ∃ bb : Nat, v = .pointer (some ⟨bb, 0, none⟩) ∧ Hid (w.heap.size ≤ bb) ∧ Hid (EeNw w L K ⟨(n : Int), buf, win, chk, most, first, sched⟩ side bb wx 0))
  case first =>
    refine wp_region_held_drew (S := NeS w [.int .i64 (n : Int), .int .i64 buf, .int .i64 win, .int .i64 chk, .int .i64 most, .int .i64 first, .int .i64 sched]) (by kernel_rfl) HNE.out ?_
    intro hHeld
    obtain ⟨W, hW⟩ : ∃ W, w1.drew = W := ⟨_, rfl⟩
    rw [hW] at hHeld ⊢
    clear hW HNE
    have TT := Lib.hid (Tn.of_below hHeld.1 L 0 No)
    have LB := Lib.hid (show relab L w.heap.size 0 w.heap.size = 0 from relab_new (Nat.le_refl _))
    obtain ⟨L0, hL0⟩ : ∃ L0, relab L w.heap.size 0 = L0 := ⟨_, rfl⟩
    rw [hL0] at TT LB
    clear hL0
    refine wpAnyH_take (i := 0) (v := .agg ([.int .i64 (n : Int), .int .i64 buf, .int .i64 win, .int .i64 chk, .int .i64 most, .int .i64 first, .int .i64 sched]).toArray) rfl (by kernel_rfl) (by kernel_rfl) (by kernel_rfl) (fun _ _ _ h => h) (yieldsIf_load_mid (by rfl) 26 (.tmp 2) rfl _ _ rfl ([.int .i64 (n : Int), .int .i64 buf, .int .i64 win, .int .i64 chk, .int .i64 most, .int .i64 first, .int .i64 sched]) _ (fun w2 h2 => h2.2.2) Tryz.underlying26 rfl (by kernel_rfl)) (by assumption) ?_
    try simp only [Act.put, List.getElem_toArray, List.getElem_cons_zero, List.setIfInBounds_toArray, List.set_cons_zero, List.set_cons_succ]
    refine tkH 1 ?_
    refine tkH 2 ?_
    refine wpAnyH_take (i := 3) (v := ?_) rfl (by kernel_rfl) (by kernel_rfl) (by kernel_rfl) (fun _ _ _ h => h) (Or.inl ⟨by rfl, ?_⟩) (by assumption) ?_
    rotate_left
    · intro w hSw
      (try dsimp only at hSw)
      have c9 := hSw.c 2 rfl
      clear hSw
      go_simp
      try (with_reducible rfl)
    try simp only [Act.put, List.getElem_toArray, List.getElem_cons_zero, List.getElem_cons_succ, List.setIfInBounds_toArray, List.set_cons_zero, List.set_cons_succ]
    refine tkH 4 ?_
    refine wpAnyH_take (i := 5) (v := ?_) rfl (by kernel_rfl) (by kernel_rfl) (by kernel_rfl) (fun _ _ _ h => h) (Or.inl ⟨by rfl, ?_⟩) (by assumption) ?_
    rotate_left
    · intro w hSw
      (try dsimp only at hSw)
      have c9 := hSw.c 0 rfl
      clear hSw
      go_simp
      try (with_reducible rfl)
    try simp only [Act.put, List.getElem_toArray, List.getElem_cons_zero, List.getElem_cons_succ, List.setIfInBounds_toArray, List.set_cons_zero, List.set_cons_succ]
    refine tkH 7 ?_
    refine wpAnyH_take (i := 8) (v := ?_) rfl (by kernel_rfl) (by kernel_rfl) (by kernel_rfl) (fun _ _ _ h => h) (Or.inl ⟨by rfl, ?_⟩) (by assumption) ?_
    rotate_left
    · intro w hSw
      (try dsimp only at hSw)
      have c9 := hSw.c 6 rfl
      clear hSw
      go_simp
      try (with_reducible rfl)
    try simp only [Act.put, List.getElem_toArray, List.getElem_cons_zero, List.getElem_cons_succ, List.setIfInBounds_toArray, List.set_cons_zero, List.set_cons_succ]
    refine tkH 10 ?_
    refine wpAnyH_take (i := 11) (v := ?_) rfl (by kernel_rfl) (by kernel_rfl) (by kernel_rfl) (fun _ _ _ h => h) (Or.inl ⟨by rfl, ?_⟩) (by assumption) ?_
    rotate_left
    · intro w hSw
      (try dsimp only at hSw)
      have c9 := hSw.c 1 rfl
      clear hSw
      go_simp
      try (with_reducible rfl)
    try simp only [Act.put, List.getElem_toArray, List.getElem_cons_zero, List.getElem_cons_succ, List.setIfInBounds_toArray, List.set_cons_zero, List.set_cons_succ]
    refine tkH 14 ?_
    refine wpAnyH_take (i := 15) (v := ?_) rfl (by kernel_rfl) (by kernel_rfl) (by kernel_rfl) (fun _ _ _ h => h) (Or.inl ⟨by rfl, ?_⟩) (by assumption) ?_
    rotate_left
    · intro w hSw
      (try dsimp only at hSw)
      have c9 := hSw.c 2 rfl
      clear hSw
      go_simp
      try (with_reducible rfl)
    try simp only [Act.put, List.getElem_toArray, List.getElem_cons_zero, List.getElem_cons_succ, List.setIfInBounds_toArray, List.set_cons_zero, List.set_cons_succ]
    refine wpAnyH_ready (rs := [6, 9]) (by kernel_rfl) (by simp) ?_
    refine AllReadyH.cons rfl (fun K2 hK2 => ?_) (AllReadyH.cons rfl (fun K2 hK2 => ?_) AllReadyH.nil)
    · go_simp
      have ho := Own.newK .i64 W (List.replicate n 0) 3 (by simp [maxLen]; have := HNN.out; omega)
      rw [List.length_replicate] at ho
      have hb : Below W.heap.size W (W.alloc (.cells (cel .i64 (List.replicate n 0)).toArray 3)) := (Below.refl _ _).alloc (Nat.le_refl _) _
      obtain ⟨w1, hw⟩ : ∃ X : World, World.alloc W (.cells (cel .i64 (List.replicate n 0)).toArray 3) = X := ⟨_, rfl⟩
      rw [hw] at ho hb ⊢
      have HM := Lib.hid (NM.new (L := L0) (K := K) ho)
      clear hw ho
      have ht := Tn.of_below hb L0 (K + 2) No
      have TT9 := Lib.hid (TT.out.trans ht)
      clear TT
      have TT := TT9
      clear TT9
      have SN := Lib.hid (hHeld.later hb)
      have LB9 := Lib.hid ((ht.old w.heap.size hHeld.2.1).trans LB.out)
      clear LB
      have LB := LB9
      clear LB9
      obtain ⟨L1, hl⟩ : ∃ X, relab L0 W.heap.size (K + 2) = X := ⟨_, rfl⟩
      rw [hl] at HM TT LB
      obtain ⟨gm, hg⟩ : ∃ X, W.heap.size = X := ⟨_, rfl⟩
      rw [hg] at HM ⊢
      clear hl hg hb ht
      try go_wp2_with fail
      refine hK2.out _ _ SN.out (fun hHeld2 => ?_)
      clear hK2 K2 hHeld SN
      have hHeld := hHeld2
      clear hHeld2
      try simp only [Act.put, List.getElem_toArray, List.getElem_cons_zero, List.getElem_cons_succ, List.setIfInBounds_toArray, List.set_cons_zero, List.set_cons_succ]
      refine wpAnyH_ready (rs := [9]) (by kernel_rfl) (by simp) ?_
      refine AllReadyH.cons rfl (fun K2 hK2 => ?_) AllReadyH.nil
      go_simp
      refine (newsc_any sched w1).mono ?_
      rintro e w2 ⟨rfl, hn, hb⟩
      have HS := Lib.hid (NS.new (L := L1) (K := K) hn)
      clear hn
      have ht := Tn.of_below hb L1 (K + 5) No
      have HM9 := Lib.hid (HM.out.keep ht)
      clear HM
      have HM := HM9
      clear HM9
      have TT9 := Lib.hid (TT.out.trans ht)
      clear TT
      have TT := TT9
      clear TT9
      have SN := Lib.hid (hHeld.later hb)
      have LB9 := Lib.hid ((ht.old w.heap.size hHeld.2.1).trans LB.out)
      clear LB
      have LB := LB9
      clear LB9
      obtain ⟨L2, hl⟩ : ∃ X, relab L1 w1.heap.size (K + 5) = X := ⟨_, rfl⟩
      rw [hl] at HM HS TT LB
      obtain ⟨sb, hg⟩ : ∃ X, w1.heap.size = X := ⟨_, rfl⟩
      rw [hg] at HS ⊢
      clear hl hg hb ht
      try go_wp2_with fail
      refine hK2.out _ _ SN.out (fun hHeld2 => ?_)
      clear hK2 K2 hHeld SN
      have hHeld := hHeld2
      clear hHeld2
      try simp only [Act.put, List.getElem_toArray, List.getElem_cons_zero, List.getElem_cons_succ, List.setIfInBounds_toArray, List.set_cons_zero, List.set_cons_succ]
      refine wpAnyH_ready (rs := [12]) (by kernel_rfl) (by simp) ?_
      refine AllReadyH.cons rfl (fun K2 hK2 => ?_) AllReadyH.nil
      go_simp
      refine (newout_any buf w2).mono ?_
      rintro e w3 ⟨rfl, hn, hb, -⟩
      have HO := Lib.hid (NO.new (L := L2) (K := K) hn)
      clear hn
      have ht := Tn.of_below hb L2 (K + 3) No
      have HM9 := Lib.hid (HM.out.keep ht)
      clear HM
      have HM := HM9
      clear HM9
      have HS9 := Lib.hid (HS.out.keep ht)
      clear HS
      have HS := HS9
      clear HS9
      have TT9 := Lib.hid (TT.out.trans ht)
      clear TT
      have TT := TT9
      clear TT9
      have SN := Lib.hid (hHeld.later hb)
      have LB9 := Lib.hid ((ht.old w.heap.size hHeld.2.1).trans LB.out)
      clear LB
      have LB := LB9
      clear LB9
      obtain ⟨L3, hl⟩ : ∃ X, relab L2 w2.heap.size (K + 3) = X := ⟨_, rfl⟩
      rw [hl] at HM HS HO TT LB
      obtain ⟨ob, hg⟩ : ∃ X, w2.heap.size = X := ⟨_, rfl⟩
      rw [hg] at HO ⊢
      clear hl hg hb ht
      try go_wp2_with fail
      refine hK2.out _ _ SN.out (fun hHeld2 => ?_)
      clear hK2 K2 hHeld SN
      have hHeld := hHeld2
      clear hHeld2
      try simp only [Act.put, List.getElem_toArray, List.getElem_cons_zero, List.getElem_cons_succ, List.setIfInBounds_toArray, List.set_cons_zero, List.set_cons_succ]
      refine wpAnyH_ready (rs := [13]) (by kernel_rfl) (by simp) ?_
      refine AllReadyH.cons rfl (fun K2 hK2 => ?_) AllReadyH.nil
      go_simp
      refine (newplan_any w3).mono ?_
      rintro e w4 ⟨rfl, hn, hb, -⟩
      have HP := Lib.hid (NP.new (L := L3) (K := K) hn)
      clear hn
      have ht := Tn.of_below hb L3 (K + 7) No
      have HM9 := Lib.hid (HM.out.keep ht)
      clear HM
      have HM := HM9
      clear HM9
      have HS9 := Lib.hid (HS.out.keep ht)
      clear HS
      have HS := HS9
      clear HS9
      have HO9 := Lib.hid (HO.out.keep ht)
      clear HO
      have HO := HO9
      clear HO9
      have TT9 := Lib.hid (TT.out.trans ht)
      clear TT
      have TT := TT9
      clear TT9
      have SN := Lib.hid (hHeld.later hb)
      have LB9 := Lib.hid ((ht.old w.heap.size hHeld.2.1).trans LB.out)
      clear LB
      have LB := LB9
      clear LB9
      obtain ⟨L4, hl⟩ : ∃ X, relab L3 w3.heap.size (K + 7) = X := ⟨_, rfl⟩
      rw [hl] at HM HS HO HP TT LB
      obtain ⟨plq, hg⟩ : ∃ X, w3.heap.size = X := ⟨_, rfl⟩
      rw [hg] at HP ⊢
      obtain ⟨pl, hg2⟩ : ∃ X, plq + 1 = X := ⟨_, rfl⟩
      rw [hg2] at HP ⊢
      clear hg2
      clear hl hg hb ht
      try go_wp2_with fail
      refine hK2.out _ _ SN.out (fun hHeld2 => ?_)
      clear hK2 K2 hHeld SN
      have hHeld := hHeld2
      clear hHeld2
      try simp only [Act.put, List.getElem_toArray, List.getElem_cons_zero, List.getElem_cons_succ, List.setIfInBounds_toArray, List.set_cons_zero, List.set_cons_succ]
      refine wpAnyH_ready (rs := [16]) (by kernel_rfl) (by simp) ?_
      refine AllReadyH.cons rfl (fun K2 hK2 => ?_) AllReadyH.nil
      go_simp
      refine (newib_any win w4).mono ?_
      rintro e w5 ⟨ib, ibq, ibg, ibn, rfl, hn, hb⟩
      have HI := Lib.hid (NI.new (L := L4) (K := K) hn)
      clear hn
      have ht := Tn.of_below hb L4 (K + 4) No
      have HM9 := Lib.hid (HM.out.keep ht)
      clear HM
      have HM := HM9
      clear HM9
      have HS9 := Lib.hid (HS.out.keep ht)
      clear HS
      have HS := HS9
      clear HS9
      have HO9 := Lib.hid (HO.out.keep ht)
      clear HO
      have HO := HO9
      clear HO9
      have HP9 := Lib.hid (HP.out.keep ht)
      clear HP
      have HP := HP9
      clear HP9
      have TT9 := Lib.hid (TT.out.trans ht)
      clear TT
      have TT := TT9
      clear TT9
      have SN := Lib.hid (hHeld.later hb)
      have LB9 := Lib.hid ((ht.old w.heap.size hHeld.2.1).trans LB.out)
      clear LB
      have LB := LB9
      clear LB9
      obtain ⟨L5, hl⟩ : ∃ X, relab L4 w4.heap.size (K + 4) = X := ⟨_, rfl⟩
      rw [hl] at HM HS HO HP HI TT LB
      clear hl hb ht
      try go_wp2_with fail
      refine hK2.out _ _ SN.out (fun hHeld2 => ?_)
      clear hK2 K2 hHeld SN
      have hHeld := hHeld2
      clear hHeld2
      try simp only [Act.put, List.getElem_toArray, List.getElem_cons_zero, List.getElem_cons_succ, List.setIfInBounds_toArray, List.set_cons_zero, List.set_cons_succ]
      refine wpAnyH_ready (rs := [17]) (by kernel_rfl) (by simp) ?_
      refine AllReadyH.cons rfl (fun K2 hK2 => ?_) AllReadyH.nil
      go_simp
      refine (newmet_any w5).mono ?_
      rintro e w6 ⟨rfl, hn, hb, -⟩
      have HT := Lib.hid (NT.new (L := L5) (K := K) hn)
      clear hn
      have ht := Tn.of_below hb L5 (K + 11) No
      have HM9 := Lib.hid (HM.out.keep ht)
      clear HM
      have HM := HM9
      clear HM9
      have HS9 := Lib.hid (HS.out.keep ht)
      clear HS
      have HS := HS9
      clear HS9
      have HO9 := Lib.hid (HO.out.keep ht)
      clear HO
      have HO := HO9
      clear HO9
      have HP9 := Lib.hid (HP.out.keep ht)
      clear HP
      have HP := HP9
      clear HP9
      have HI9 := Lib.hid (HI.out.keep ht)
      clear HI
      have HI := HI9
      clear HI9
      have TT9 := Lib.hid (TT.out.trans ht)
      clear TT
      have TT := TT9
      clear TT9
      have SN := Lib.hid (hHeld.later hb)
      have LB9 := Lib.hid ((ht.old w.heap.size hHeld.2.1).trans LB.out)
      clear LB
      have LB := LB9
      clear LB9
      obtain ⟨L6, hl⟩ : ∃ X, relab L5 w5.heap.size (K + 11) = X := ⟨_, rfl⟩
      rw [hl] at HM HS HO HP HI HT TT LB
      obtain ⟨mb, hg⟩ : ∃ X, w5.heap.size = X := ⟨_, rfl⟩
      rw [hg] at HT ⊢
      clear hl hg hb ht
      try go_wp2_with fail
      refine hK2.out _ _ SN.out (fun hHeld2 => ?_)
      clear hK2 K2 hHeld SN
      have hHeld := hHeld2
      clear hHeld2
      try simp only [Act.put, List.getElem_toArray, List.getElem_cons_zero, List.getElem_cons_succ, List.setIfInBounds_toArray, List.set_cons_zero, List.set_cons_succ]
      refine tkH 18 ?_
      refine wpAnyH_ready (rs := [19]) (by kernel_rfl) (by simp) ?_
      refine AllReadyH.cons rfl (fun K2 hK2 => ?_) AllReadyH.nil
      go_simp
      have h0 := EeAt.first (K := K) (L := L6) ⟨(n : Int), buf, win, chk, most, first, sched⟩ side (n := n) (by simp) HM.out HS.out HO.out HP.out HI.out HT.out
      have hb : Below w6.heap.size w6 (w6.alloc (.cells (nwL ⟨(n : Int), buf, win, chk, most, first, sched⟩ side (.slice (some ⟨gm, 0, none⟩) n n) sb ob pl ib mb).toArray tEnd)) := (Below.refl _ _).alloc (Nat.le_refl _) _
      have ht := Tn.of_below hb L6 K No
      have hNE := hHeld.later hb
      have hTT := TT.out.trans ht
      have hLB := (ht.old w.heap.size hHeld.2.1).trans LB.out
      have hsz := Nat.le_of_lt hHeld.2.1
      obtain ⟨b, hbb⟩ : ∃ b, w6.heap.size = b := ⟨_, rfl⟩
      have HMID := Lib.hid (show EeNw w L K ⟨(n : Int), buf, win, chk, most, first, sched⟩ side b (w6.alloc (.cells (nwL ⟨(n : Int), buf, win, chk, most, first, sched⟩ side (.slice (some ⟨gm, 0, none⟩) n n) sb ob pl ib mb).toArray tEnd)) 0 from ⟨_, _, by rw [← hbb]; exact ⟨_, h0⟩, hTT, hNE.rg, hLB⟩)
      have HSZ := Lib.hid (show w.heap.size ≤ b by rw [← hbb]; exact hsz)
      rw [hbb]
      refine hK2.out _ _ hNE (fun hHeld2 => ?_)
      clear hK2 K2 hHeld h0 hb ht hNE hTT hLB hsz hbb HM HS HO HP HI HT TT LB
      have hHeld := hHeld2
      clear hHeld2
      try simp only [Act.put, List.getElem_toArray, List.getElem_cons_zero, List.getElem_cons_succ, List.setIfInBounds_toArray, List.set_cons_zero, List.set_cons_succ]
      refine tkH 20 ?_
      refine wpAnyH_done (by kernel_rfl) ?_ _
      clear hHeld
      go_wp2
      go_meet
      exact ⟨_, rfl, HSZ, HMID⟩
    · go_simp
      refine (newsc_any sched W).mono ?_
      rintro e w7 ⟨rfl, hn, hb⟩
      have HS := Lib.hid (NS.new (L := L0) (K := K) hn)
      clear hn
      have ht := Tn.of_below hb L0 (K + 5) No
      have TT9 := Lib.hid (TT.out.trans ht)
      clear TT
      have TT := TT9
      clear TT9
      have SN := Lib.hid (hHeld.later hb)
      have LB9 := Lib.hid ((ht.old w.heap.size hHeld.2.1).trans LB.out)
      clear LB
      have LB := LB9
      clear LB9
      obtain ⟨L7, hl⟩ : ∃ X, relab L0 W.heap.size (K + 5) = X := ⟨_, rfl⟩
      rw [hl] at HS TT LB
      obtain ⟨sb, hg⟩ : ∃ X, W.heap.size = X := ⟨_, rfl⟩
      rw [hg] at HS ⊢
      clear hl hg hb ht
      try go_wp2_with fail
      refine hK2.out _ _ SN.out (fun hHeld2 => ?_)
      clear hK2 K2 hHeld SN
      have hHeld := hHeld2
      clear hHeld2
      try simp only [Act.put, List.getElem_toArray, List.getElem_cons_zero, List.getElem_cons_succ, List.setIfInBounds_toArray, List.set_cons_zero, List.set_cons_succ]
      refine wpAnyH_ready (rs := [6, 12]) (by kernel_rfl) (by simp) ?_
      refine AllReadyH.cons rfl (fun K2 hK2 => ?_) (AllReadyH.cons rfl (fun K2 hK2 => ?_) AllReadyH.nil)
      · go_simp
        have ho := Own.newK .i64 w7 (List.replicate n 0) 3 (by simp [maxLen]; have := HNN.out; omega)
        rw [List.length_replicate] at ho
        have hb : Below w7.heap.size w7 (w7.alloc (.cells (cel .i64 (List.replicate n 0)).toArray 3)) := (Below.refl _ _).alloc (Nat.le_refl _) _
        obtain ⟨w8, hw⟩ : ∃ X : World, World.alloc w7 (.cells (cel .i64 (List.replicate n 0)).toArray 3) = X := ⟨_, rfl⟩
        rw [hw] at ho hb ⊢
        have HM := Lib.hid (NM.new (L := L7) (K := K) ho)
        clear hw ho
        have ht := Tn.of_below hb L7 (K + 2) No
        have HS9 := Lib.hid (HS.out.keep ht)
        clear HS
        have HS := HS9
        clear HS9
        have TT9 := Lib.hid (TT.out.trans ht)
        clear TT
        have TT := TT9
        clear TT9
        have SN := Lib.hid (hHeld.later hb)
        have LB9 := Lib.hid ((ht.old w.heap.size hHeld.2.1).trans LB.out)
        clear LB
        have LB := LB9
        clear LB9
        obtain ⟨L8, hl⟩ : ∃ X, relab L7 w7.heap.size (K + 2) = X := ⟨_, rfl⟩
        rw [hl] at HS HM TT LB
        obtain ⟨gm, hg⟩ : ∃ X, w7.heap.size = X := ⟨_, rfl⟩
        rw [hg] at HM ⊢
        clear hl hg hb ht
        try go_wp2_with fail
        refine hK2.out _ _ SN.out (fun hHeld2 => ?_)
        clear hK2 K2 hHeld SN
        have hHeld := hHeld2
        clear hHeld2
        try simp only [Act.put, List.getElem_toArray, List.getElem_cons_zero, List.getElem_cons_succ, List.setIfInBounds_toArray, List.set_cons_zero, List.set_cons_succ]
        refine wpAnyH_ready (rs := [12]) (by kernel_rfl) (by simp) ?_
        refine AllReadyH.cons rfl (fun K2 hK2 => ?_) AllReadyH.nil
        go_simp
        refine (newout_any buf w8).mono ?_
        rintro e w9 ⟨rfl, hn, hb, -⟩
        have HO := Lib.hid (NO.new (L := L8) (K := K) hn)
        clear hn
        have ht := Tn.of_below hb L8 (K + 3) No
        have HS9 := Lib.hid (HS.out.keep ht)
        clear HS
        have HS := HS9
        clear HS9
        have HM9 := Lib.hid (HM.out.keep ht)
        clear HM
        have HM := HM9
        clear HM9
        have TT9 := Lib.hid (TT.out.trans ht)
        clear TT
        have TT := TT9
        clear TT9
        have SN := Lib.hid (hHeld.later hb)
        have LB9 := Lib.hid ((ht.old w.heap.size hHeld.2.1).trans LB.out)
        clear LB
        have LB := LB9
        clear LB9
        obtain ⟨L9, hl⟩ : ∃ X, relab L8 w8.heap.size (K + 3) = X := ⟨_, rfl⟩
        rw [hl] at HS HM HO TT LB
        obtain ⟨ob, hg⟩ : ∃ X, w8.heap.size = X := ⟨_, rfl⟩
        rw [hg] at HO ⊢
        clear hl hg hb ht
        try go_wp2_with fail
        refine hK2.out _ _ SN.out (fun hHeld2 => ?_)
        clear hK2 K2 hHeld SN
        have hHeld := hHeld2
        clear hHeld2
        try simp only [Act.put, List.getElem_toArray, List.getElem_cons_zero, List.getElem_cons_succ, List.setIfInBounds_toArray, List.set_cons_zero, List.set_cons_succ]
        refine wpAnyH_ready (rs := [13]) (by kernel_rfl) (by simp) ?_
        refine AllReadyH.cons rfl (fun K2 hK2 => ?_) AllReadyH.nil
        go_simp
        refine (newplan_any w9).mono ?_
        rintro e w10 ⟨rfl, hn, hb, -⟩
        have HP := Lib.hid (NP.new (L := L9) (K := K) hn)
        clear hn
        have ht := Tn.of_below hb L9 (K + 7) No
        have HS9 := Lib.hid (HS.out.keep ht)
        clear HS
        have HS := HS9
        clear HS9
        have HM9 := Lib.hid (HM.out.keep ht)
        clear HM
        have HM := HM9
        clear HM9
        have HO9 := Lib.hid (HO.out.keep ht)
        clear HO
        have HO := HO9
        clear HO9
        have TT9 := Lib.hid (TT.out.trans ht)
        clear TT
        have TT := TT9
        clear TT9
        have SN := Lib.hid (hHeld.later hb)
        have LB9 := Lib.hid ((ht.old w.heap.size hHeld.2.1).trans LB.out)
        clear LB
        have LB := LB9
        clear LB9
        obtain ⟨L10, hl⟩ : ∃ X, relab L9 w9.heap.size (K + 7) = X := ⟨_, rfl⟩
        rw [hl] at HS HM HO HP TT LB
        obtain ⟨plq, hg⟩ : ∃ X, w9.heap.size = X := ⟨_, rfl⟩
        rw [hg] at HP ⊢
        obtain ⟨pl, hg2⟩ : ∃ X, plq + 1 = X := ⟨_, rfl⟩
        rw [hg2] at HP ⊢
        clear hg2
        clear hl hg hb ht
        try go_wp2_with fail
        refine hK2.out _ _ SN.out (fun hHeld2 => ?_)
        clear hK2 K2 hHeld SN
        have hHeld := hHeld2
        clear hHeld2
        try simp only [Act.put, List.getElem_toArray, List.getElem_cons_zero, List.getElem_cons_succ, List.setIfInBounds_toArray, List.set_cons_zero, List.set_cons_succ]
        refine wpAnyH_ready (rs := [16]) (by kernel_rfl) (by simp) ?_
        refine AllReadyH.cons rfl (fun K2 hK2 => ?_) AllReadyH.nil
        go_simp
        refine (newib_any win w10).mono ?_
        rintro e w11 ⟨ib, ibq, ibg, ibn, rfl, hn, hb⟩
        have HI := Lib.hid (NI.new (L := L10) (K := K) hn)
        clear hn
        have ht := Tn.of_below hb L10 (K + 4) No
        have HS9 := Lib.hid (HS.out.keep ht)
        clear HS
        have HS := HS9
        clear HS9
        have HM9 := Lib.hid (HM.out.keep ht)
        clear HM
        have HM := HM9
        clear HM9
        have HO9 := Lib.hid (HO.out.keep ht)
        clear HO
        have HO := HO9
        clear HO9
        have HP9 := Lib.hid (HP.out.keep ht)
        clear HP
        have HP := HP9
        clear HP9
        have TT9 := Lib.hid (TT.out.trans ht)
        clear TT
        have TT := TT9
        clear TT9
        have SN := Lib.hid (hHeld.later hb)
        have LB9 := Lib.hid ((ht.old w.heap.size hHeld.2.1).trans LB.out)
        clear LB
        have LB := LB9
        clear LB9
        obtain ⟨L11, hl⟩ : ∃ X, relab L10 w10.heap.size (K + 4) = X := ⟨_, rfl⟩
        rw [hl] at HS HM HO HP HI TT LB
        clear hl hb ht
        try go_wp2_with fail
        refine hK2.out _ _ SN.out (fun hHeld2 => ?_)
        clear hK2 K2 hHeld SN
        have hHeld := hHeld2
        clear hHeld2
        try simp only [Act.put, List.getElem_toArray, List.getElem_cons_zero, List.getElem_cons_succ, List.setIfInBounds_toArray, List.set_cons_zero, List.set_cons_succ]
        refine wpAnyH_ready (rs := [17]) (by kernel_rfl) (by simp) ?_
        refine AllReadyH.cons rfl (fun K2 hK2 => ?_) AllReadyH.nil
        go_simp
        refine (newmet_any w11).mono ?_
        rintro e w12 ⟨rfl, hn, hb, -⟩
        have HT := Lib.hid (NT.new (L := L11) (K := K) hn)
        clear hn
        have ht := Tn.of_below hb L11 (K + 11) No
        have HS9 := Lib.hid (HS.out.keep ht)
        clear HS
        have HS := HS9
        clear HS9
        have HM9 := Lib.hid (HM.out.keep ht)
        clear HM
        have HM := HM9
        clear HM9
        have HO9 := Lib.hid (HO.out.keep ht)
        clear HO
        have HO := HO9
        clear HO9
        have HP9 := Lib.hid (HP.out.keep ht)
        clear HP
        have HP := HP9
        clear HP9
        have HI9 := Lib.hid (HI.out.keep ht)
        clear HI
        have HI := HI9
        clear HI9
        have TT9 := Lib.hid (TT.out.trans ht)
        clear TT
        have TT := TT9
        clear TT9
        have SN := Lib.hid (hHeld.later hb)
        have LB9 := Lib.hid ((ht.old w.heap.size hHeld.2.1).trans LB.out)
        clear LB
        have LB := LB9
        clear LB9
        obtain ⟨L12, hl⟩ : ∃ X, relab L11 w11.heap.size (K + 11) = X := ⟨_, rfl⟩
        rw [hl] at HS HM HO HP HI HT TT LB
        obtain ⟨mb, hg⟩ : ∃ X, w11.heap.size = X := ⟨_, rfl⟩
        rw [hg] at HT ⊢
        clear hl hg hb ht
        try go_wp2_with fail
        refine hK2.out _ _ SN.out (fun hHeld2 => ?_)
        clear hK2 K2 hHeld SN
        have hHeld := hHeld2
        clear hHeld2
        try simp only [Act.put, List.getElem_toArray, List.getElem_cons_zero, List.getElem_cons_succ, List.setIfInBounds_toArray, List.set_cons_zero, List.set_cons_succ]
        refine tkH 18 ?_
        refine wpAnyH_ready (rs := [19]) (by kernel_rfl) (by simp) ?_
        refine AllReadyH.cons rfl (fun K2 hK2 => ?_) AllReadyH.nil
        go_simp
        have h0 := EeAt.first (K := K) (L := L12) ⟨(n : Int), buf, win, chk, most, first, sched⟩ side (n := n) (by simp) HM.out HS.out HO.out HP.out HI.out HT.out
        have hb : Below w12.heap.size w12 (w12.alloc (.cells (nwL ⟨(n : Int), buf, win, chk, most, first, sched⟩ side (.slice (some ⟨gm, 0, none⟩) n n) sb ob pl ib mb).toArray tEnd)) := (Below.refl _ _).alloc (Nat.le_refl _) _
        have ht := Tn.of_below hb L12 K No
        have hNE := hHeld.later hb
        have hTT := TT.out.trans ht
        have hLB := (ht.old w.heap.size hHeld.2.1).trans LB.out
        have hsz := Nat.le_of_lt hHeld.2.1
        obtain ⟨b, hbb⟩ : ∃ b, w12.heap.size = b := ⟨_, rfl⟩
        have HMID := Lib.hid (show EeNw w L K ⟨(n : Int), buf, win, chk, most, first, sched⟩ side b (w12.alloc (.cells (nwL ⟨(n : Int), buf, win, chk, most, first, sched⟩ side (.slice (some ⟨gm, 0, none⟩) n n) sb ob pl ib mb).toArray tEnd)) 0 from ⟨_, _, by rw [← hbb]; exact ⟨_, h0⟩, hTT, hNE.rg, hLB⟩)
        have HSZ := Lib.hid (show w.heap.size ≤ b by rw [← hbb]; exact hsz)
        rw [hbb]
        refine hK2.out _ _ hNE (fun hHeld2 => ?_)
        clear hK2 K2 hHeld h0 hb ht hNE hTT hLB hsz hbb HM HS HO HP HI HT TT LB
        have hHeld := hHeld2
        clear hHeld2
        try simp only [Act.put, List.getElem_toArray, List.getElem_cons_zero, List.getElem_cons_succ, List.setIfInBounds_toArray, List.set_cons_zero, List.set_cons_succ]
        refine tkH 20 ?_
        refine wpAnyH_done (by kernel_rfl) ?_ _
        clear hHeld
        go_wp2
        go_meet
        exact ⟨_, rfl, HSZ, HMID⟩
      · go_simp
        refine (newout_any buf w7).mono ?_
        rintro e w13 ⟨rfl, hn, hb, -⟩
        have HO := Lib.hid (NO.new (L := L7) (K := K) hn)
        clear hn
        have ht := Tn.of_below hb L7 (K + 3) No
        have HS9 := Lib.hid (HS.out.keep ht)
        clear HS
        have HS := HS9
        clear HS9
        have TT9 := Lib.hid (TT.out.trans ht)
        clear TT
        have TT := TT9
        clear TT9
        have SN := Lib.hid (hHeld.later hb)
        have LB9 := Lib.hid ((ht.old w.heap.size hHeld.2.1).trans LB.out)
        clear LB
        have LB := LB9
        clear LB9
        obtain ⟨L13, hl⟩ : ∃ X, relab L7 w7.heap.size (K + 3) = X := ⟨_, rfl⟩
        rw [hl] at HS HO TT LB
        obtain ⟨ob, hg⟩ : ∃ X, w7.heap.size = X := ⟨_, rfl⟩
        rw [hg] at HO ⊢
        clear hl hg hb ht
        try go_wp2_with fail
        refine hK2.out _ _ SN.out (fun hHeld2 => ?_)
        clear hK2 K2 hHeld SN
        have hHeld := hHeld2
        clear hHeld2
        try simp only [Act.put, List.getElem_toArray, List.getElem_cons_zero, List.getElem_cons_succ, List.setIfInBounds_toArray, List.set_cons_zero, List.set_cons_succ]
        refine wpAnyH_ready (rs := [6, 13]) (by kernel_rfl) (by simp) ?_
        refine AllReadyH.cons rfl (fun K2 hK2 => ?_) (AllReadyH.cons rfl (fun K2 hK2 => ?_) AllReadyH.nil)
        · go_simp
          have ho := Own.newK .i64 w13 (List.replicate n 0) 3 (by simp [maxLen]; have := HNN.out; omega)
          rw [List.length_replicate] at ho
          have hb : Below w13.heap.size w13 (w13.alloc (.cells (cel .i64 (List.replicate n 0)).toArray 3)) := (Below.refl _ _).alloc (Nat.le_refl _) _
          obtain ⟨w14, hw⟩ : ∃ X : World, World.alloc w13 (.cells (cel .i64 (List.replicate n 0)).toArray 3) = X := ⟨_, rfl⟩
          rw [hw] at ho hb ⊢
          have HM := Lib.hid (NM.new (L := L13) (K := K) ho)
          clear hw ho
          have ht := Tn.of_below hb L13 (K + 2) No
          have HS9 := Lib.hid (HS.out.keep ht)
          clear HS
          have HS := HS9
          clear HS9
          have HO9 := Lib.hid (HO.out.keep ht)
          clear HO
          have HO := HO9
          clear HO9
          have TT9 := Lib.hid (TT.out.trans ht)
          clear TT
          have TT := TT9
          clear TT9
          have SN := Lib.hid (hHeld.later hb)
          have LB9 := Lib.hid ((ht.old w.heap.size hHeld.2.1).trans LB.out)
          clear LB
          have LB := LB9
          clear LB9
          obtain ⟨L14, hl⟩ : ∃ X, relab L13 w13.heap.size (K + 2) = X := ⟨_, rfl⟩
          rw [hl] at HS HO HM TT LB
          obtain ⟨gm, hg⟩ : ∃ X, w13.heap.size = X := ⟨_, rfl⟩
          rw [hg] at HM ⊢
          clear hl hg hb ht
          try go_wp2_with fail
          refine hK2.out _ _ SN.out (fun hHeld2 => ?_)
          clear hK2 K2 hHeld SN
          have hHeld := hHeld2
          clear hHeld2
          try simp only [Act.put, List.getElem_toArray, List.getElem_cons_zero, List.getElem_cons_succ, List.setIfInBounds_toArray, List.set_cons_zero, List.set_cons_succ]
          refine wpAnyH_ready (rs := [13]) (by kernel_rfl) (by simp) ?_
          refine AllReadyH.cons rfl (fun K2 hK2 => ?_) AllReadyH.nil
          go_simp
          refine (newplan_any w14).mono ?_
          rintro e w15 ⟨rfl, hn, hb, -⟩
          have HP := Lib.hid (NP.new (L := L14) (K := K) hn)
          clear hn
          have ht := Tn.of_below hb L14 (K + 7) No
          have HS9 := Lib.hid (HS.out.keep ht)
          clear HS
          have HS := HS9
          clear HS9
          have HO9 := Lib.hid (HO.out.keep ht)
          clear HO
          have HO := HO9
          clear HO9
          have HM9 := Lib.hid (HM.out.keep ht)
          clear HM
          have HM := HM9
          clear HM9
          have TT9 := Lib.hid (TT.out.trans ht)
          clear TT
          have TT := TT9
          clear TT9
          have SN := Lib.hid (hHeld.later hb)
          have LB9 := Lib.hid ((ht.old w.heap.size hHeld.2.1).trans LB.out)
          clear LB
          have LB := LB9
          clear LB9
          obtain ⟨L15, hl⟩ : ∃ X, relab L14 w14.heap.size (K + 7) = X := ⟨_, rfl⟩
          rw [hl] at HS HO HM HP TT LB
          obtain ⟨plq, hg⟩ : ∃ X, w14.heap.size = X := ⟨_, rfl⟩
          rw [hg] at HP ⊢
          obtain ⟨pl, hg2⟩ : ∃ X, plq + 1 = X := ⟨_, rfl⟩
          rw [hg2] at HP ⊢
          clear hg2
          clear hl hg hb ht
          try go_wp2_with fail
          refine hK2.out _ _ SN.out (fun hHeld2 => ?_)
          clear hK2 K2 hHeld SN
          have hHeld := hHeld2
          clear hHeld2
          try simp only [Act.put, List.getElem_toArray, List.getElem_cons_zero, List.getElem_cons_succ, List.setIfInBounds_toArray, List.set_cons_zero, List.set_cons_succ]
          refine wpAnyH_ready (rs := [16]) (by kernel_rfl) (by simp) ?_
          refine AllReadyH.cons rfl (fun K2 hK2 => ?_) AllReadyH.nil
          go_simp
          refine (newib_any win w15).mono ?_
          rintro e w16 ⟨ib, ibq, ibg, ibn, rfl, hn, hb⟩
          have HI := Lib.hid (NI.new (L := L15) (K := K) hn)
          clear hn
          have ht := Tn.of_below hb L15 (K + 4) No
          have HS9 := Lib.hid (HS.out.keep ht)
          clear HS
          have HS := HS9
          clear HS9
          have HO9 := Lib.hid (HO.out.keep ht)
          clear HO
          have HO := HO9
          clear HO9
          have HM9 := Lib.hid (HM.out.keep ht)
          clear HM
          have HM := HM9
          clear HM9
          have HP9 := Lib.hid (HP.out.keep ht)
          clear HP
          have HP := HP9
          clear HP9
          have TT9 := Lib.hid (TT.out.trans ht)
          clear TT
          have TT := TT9
          clear TT9
          have SN := Lib.hid (hHeld.later hb)
          have LB9 := Lib.hid ((ht.old w.heap.size hHeld.2.1).trans LB.out)
          clear LB
          have LB := LB9
          clear LB9
          obtain ⟨L16, hl⟩ : ∃ X, relab L15 w15.heap.size (K + 4) = X := ⟨_, rfl⟩
          rw [hl] at HS HO HM HP HI TT LB
          clear hl hb ht
          try go_wp2_with fail
          refine hK2.out _ _ SN.out (fun hHeld2 => ?_)
          clear hK2 K2 hHeld SN
          have hHeld := hHeld2
          clear hHeld2
          try simp only [Act.put, List.getElem_toArray, List.getElem_cons_zero, List.getElem_cons_succ, List.setIfInBounds_toArray, List.set_cons_zero, List.set_cons_succ]
          refine wpAnyH_ready (rs := [17]) (by kernel_rfl) (by simp) ?_
          refine AllReadyH.cons rfl (fun K2 hK2 => ?_) AllReadyH.nil
          go_simp
          refine (newmet_any w16).mono ?_
          rintro e w17 ⟨rfl, hn, hb, -⟩
          have HT := Lib.hid (NT.new (L := L16) (K := K) hn)
          clear hn
          have ht := Tn.of_below hb L16 (K + 11) No
          have HS9 := Lib.hid (HS.out.keep ht)
          clear HS
          have HS := HS9
          clear HS9
          have HO9 := Lib.hid (HO.out.keep ht)
          clear HO
          have HO := HO9
          clear HO9
          have HM9 := Lib.hid (HM.out.keep ht)
          clear HM
          have HM := HM9
          clear HM9
          have HP9 := Lib.hid (HP.out.keep ht)
          clear HP
          have HP := HP9
          clear HP9
          have HI9 := Lib.hid (HI.out.keep ht)
          clear HI
          have HI := HI9
          clear HI9
          have TT9 := Lib.hid (TT.out.trans ht)
          clear TT
          have TT := TT9
          clear TT9
          have SN := Lib.hid (hHeld.later hb)
          have LB9 := Lib.hid ((ht.old w.heap.size hHeld.2.1).trans LB.out)
          clear LB
          have LB := LB9
          clear LB9
          obtain ⟨L17, hl⟩ : ∃ X, relab L16 w16.heap.size (K + 11) = X := ⟨_, rfl⟩
          rw [hl] at HS HO HM HP HI HT TT LB
          obtain ⟨mb, hg⟩ : ∃ X, w16.heap.size = X := ⟨_, rfl⟩
          rw [hg] at HT ⊢
          clear hl hg hb ht
          try go_wp2_with fail
          refine hK2.out _ _ SN.out (fun hHeld2 => ?_)
          clear hK2 K2 hHeld SN
          have hHeld := hHeld2
          clear hHeld2
          try simp only [Act.put, List.getElem_toArray, List.getElem_cons_zero, List.getElem_cons_succ, List.setIfInBounds_toArray, List.set_cons_zero, List.set_cons_succ]
          refine tkH 18 ?_
          refine wpAnyH_ready (rs := [19]) (by kernel_rfl) (by simp) ?_
          refine AllReadyH.cons rfl (fun K2 hK2 => ?_) AllReadyH.nil
          go_simp
          have h0 := EeAt.first (K := K) (L := L17) ⟨(n : Int), buf, win, chk, most, first, sched⟩ side (n := n) (by simp) HM.out HS.out HO.out HP.out HI.out HT.out
          have hb : Below w17.heap.size w17 (w17.alloc (.cells (nwL ⟨(n : Int), buf, win, chk, most, first, sched⟩ side (.slice (some ⟨gm, 0, none⟩) n n) sb ob pl ib mb).toArray tEnd)) := (Below.refl _ _).alloc (Nat.le_refl _) _
          have ht := Tn.of_below hb L17 K No
          have hNE := hHeld.later hb
          have hTT := TT.out.trans ht
          have hLB := (ht.old w.heap.size hHeld.2.1).trans LB.out
          have hsz := Nat.le_of_lt hHeld.2.1
          obtain ⟨b, hbb⟩ : ∃ b, w17.heap.size = b := ⟨_, rfl⟩
          have HMID := Lib.hid (show EeNw w L K ⟨(n : Int), buf, win, chk, most, first, sched⟩ side b (w17.alloc (.cells (nwL ⟨(n : Int), buf, win, chk, most, first, sched⟩ side (.slice (some ⟨gm, 0, none⟩) n n) sb ob pl ib mb).toArray tEnd)) 0 from ⟨_, _, by rw [← hbb]; exact ⟨_, h0⟩, hTT, hNE.rg, hLB⟩)
          have HSZ := Lib.hid (show w.heap.size ≤ b by rw [← hbb]; exact hsz)
          rw [hbb]
          refine hK2.out _ _ hNE (fun hHeld2 => ?_)
          clear hK2 K2 hHeld h0 hb ht hNE hTT hLB hsz hbb HM HS HO HP HI HT TT LB
          have hHeld := hHeld2
          clear hHeld2
          try simp only [Act.put, List.getElem_toArray, List.getElem_cons_zero, List.getElem_cons_succ, List.setIfInBounds_toArray, List.set_cons_zero, List.set_cons_succ]
          refine tkH 20 ?_
          refine wpAnyH_done (by kernel_rfl) ?_ _
          clear hHeld
          go_wp2
          go_meet
          exact ⟨_, rfl, HSZ, HMID⟩
        · go_simp
          refine (newplan_any w13).mono ?_
          rintro e w18 ⟨rfl, hn, hb, -⟩
          have HP := Lib.hid (NP.new (L := L13) (K := K) hn)
          clear hn
          have ht := Tn.of_below hb L13 (K + 7) No
          have HS9 := Lib.hid (HS.out.keep ht)
          clear HS
          have HS := HS9
          clear HS9
          have HO9 := Lib.hid (HO.out.keep ht)
          clear HO
          have HO := HO9
          clear HO9
          have TT9 := Lib.hid (TT.out.trans ht)
          clear TT
          have TT := TT9
          clear TT9
          have SN := Lib.hid (hHeld.later hb)
          have LB9 := Lib.hid ((ht.old w.heap.size hHeld.2.1).trans LB.out)
          clear LB
          have LB := LB9
          clear LB9
          obtain ⟨L18, hl⟩ : ∃ X, relab L13 w13.heap.size (K + 7) = X := ⟨_, rfl⟩
          rw [hl] at HS HO HP TT LB
          obtain ⟨plq, hg⟩ : ∃ X, w13.heap.size = X := ⟨_, rfl⟩
          rw [hg] at HP ⊢
          obtain ⟨pl, hg2⟩ : ∃ X, plq + 1 = X := ⟨_, rfl⟩
          rw [hg2] at HP ⊢
          clear hg2
          clear hl hg hb ht
          try go_wp2_with fail
          refine hK2.out _ _ SN.out (fun hHeld2 => ?_)
          clear hK2 K2 hHeld SN
          have hHeld := hHeld2
          clear hHeld2
          try simp only [Act.put, List.getElem_toArray, List.getElem_cons_zero, List.getElem_cons_succ, List.setIfInBounds_toArray, List.set_cons_zero, List.set_cons_succ]
          refine wpAnyH_ready (rs := [6, 16]) (by kernel_rfl) (by simp) ?_
          refine AllReadyH.cons rfl (fun K2 hK2 => ?_) (AllReadyH.cons rfl (fun K2 hK2 => ?_) AllReadyH.nil)
          · go_simp
            have ho := Own.newK .i64 w18 (List.replicate n 0) 3 (by simp [maxLen]; have := HNN.out; omega)
            rw [List.length_replicate] at ho
            have hb : Below w18.heap.size w18 (w18.alloc (.cells (cel .i64 (List.replicate n 0)).toArray 3)) := (Below.refl _ _).alloc (Nat.le_refl _) _
            obtain ⟨w19, hw⟩ : ∃ X : World, World.alloc w18 (.cells (cel .i64 (List.replicate n 0)).toArray 3) = X := ⟨_, rfl⟩
            rw [hw] at ho hb ⊢
            have HM := Lib.hid (NM.new (L := L18) (K := K) ho)
            clear hw ho
            have ht := Tn.of_below hb L18 (K + 2) No
            have HS9 := Lib.hid (HS.out.keep ht)
            clear HS
            have HS := HS9
            clear HS9
            have HO9 := Lib.hid (HO.out.keep ht)
            clear HO
            have HO := HO9
            clear HO9
            have HP9 := Lib.hid (HP.out.keep ht)
            clear HP
            have HP := HP9
            clear HP9
            have TT9 := Lib.hid (TT.out.trans ht)
            clear TT
            have TT := TT9
            clear TT9
            have SN := Lib.hid (hHeld.later hb)
            have LB9 := Lib.hid ((ht.old w.heap.size hHeld.2.1).trans LB.out)
            clear LB
            have LB := LB9
            clear LB9
            obtain ⟨L19, hl⟩ : ∃ X, relab L18 w18.heap.size (K + 2) = X := ⟨_, rfl⟩
            rw [hl] at HS HO HP HM TT LB
            obtain ⟨gm, hg⟩ : ∃ X, w18.heap.size = X := ⟨_, rfl⟩
            rw [hg] at HM ⊢
            clear hl hg hb ht
            try go_wp2_with fail
            refine hK2.out _ _ SN.out (fun hHeld2 => ?_)
            clear hK2 K2 hHeld SN
            have hHeld := hHeld2
            clear hHeld2
            try simp only [Act.put, List.getElem_toArray, List.getElem_cons_zero, List.getElem_cons_succ, List.setIfInBounds_toArray, List.set_cons_zero, List.set_cons_succ]
            refine wpAnyH_ready (rs := [16]) (by kernel_rfl) (by simp) ?_
            refine AllReadyH.cons rfl (fun K2 hK2 => ?_) AllReadyH.nil
            go_simp
            refine (newib_any win w19).mono ?_
            rintro e w20 ⟨ib, ibq, ibg, ibn, rfl, hn, hb⟩
            have HI := Lib.hid (NI.new (L := L19) (K := K) hn)
            clear hn
            have ht := Tn.of_below hb L19 (K + 4) No
            have HS9 := Lib.hid (HS.out.keep ht)
            clear HS
            have HS := HS9
            clear HS9
            have HO9 := Lib.hid (HO.out.keep ht)
            clear HO
            have HO := HO9
            clear HO9
            have HP9 := Lib.hid (HP.out.keep ht)
            clear HP
            have HP := HP9
            clear HP9
            have HM9 := Lib.hid (HM.out.keep ht)
            clear HM
            have HM := HM9
            clear HM9
            have TT9 := Lib.hid (TT.out.trans ht)
            clear TT
            have TT := TT9
            clear TT9
            have SN := Lib.hid (hHeld.later hb)
            have LB9 := Lib.hid ((ht.old w.heap.size hHeld.2.1).trans LB.out)
            clear LB
            have LB := LB9
            clear LB9
            obtain ⟨L20, hl⟩ : ∃ X, relab L19 w19.heap.size (K + 4) = X := ⟨_, rfl⟩
            rw [hl] at HS HO HP HM HI TT LB
            clear hl hb ht
            try go_wp2_with fail
            refine hK2.out _ _ SN.out (fun hHeld2 => ?_)
            clear hK2 K2 hHeld SN
            have hHeld := hHeld2
            clear hHeld2
            try simp only [Act.put, List.getElem_toArray, List.getElem_cons_zero, List.getElem_cons_succ, List.setIfInBounds_toArray, List.set_cons_zero, List.set_cons_succ]
            refine wpAnyH_ready (rs := [17]) (by kernel_rfl) (by simp) ?_
            refine AllReadyH.cons rfl (fun K2 hK2 => ?_) AllReadyH.nil
            go_simp
            refine (newmet_any w20).mono ?_
            rintro e w21 ⟨rfl, hn, hb, -⟩
            have HT := Lib.hid (NT.new (L := L20) (K := K) hn)
            clear hn
            have ht := Tn.of_below hb L20 (K + 11) No
            have HS9 := Lib.hid (HS.out.keep ht)
            clear HS
            have HS := HS9
            clear HS9
            have HO9 := Lib.hid (HO.out.keep ht)
            clear HO
            have HO := HO9
            clear HO9
            have HP9 := Lib.hid (HP.out.keep ht)
            clear HP
            have HP := HP9
            clear HP9
            have HM9 := Lib.hid (HM.out.keep ht)
            clear HM
            have HM := HM9
            clear HM9
            have HI9 := Lib.hid (HI.out.keep ht)
            clear HI
            have HI := HI9
            clear HI9
            have TT9 := Lib.hid (TT.out.trans ht)
            clear TT
            have TT := TT9
            clear TT9
            have SN := Lib.hid (hHeld.later hb)
            have LB9 := Lib.hid ((ht.old w.heap.size hHeld.2.1).trans LB.out)
            clear LB
            have LB := LB9
            clear LB9
            obtain ⟨L21, hl⟩ : ∃ X, relab L20 w20.heap.size (K + 11) = X := ⟨_, rfl⟩
            rw [hl] at HS HO HP HM HI HT TT LB
            obtain ⟨mb, hg⟩ : ∃ X, w20.heap.size = X := ⟨_, rfl⟩
            rw [hg] at HT ⊢
            clear hl hg hb ht
            try go_wp2_with fail
            refine hK2.out _ _ SN.out (fun hHeld2 => ?_)
            clear hK2 K2 hHeld SN
            have hHeld := hHeld2
            clear hHeld2
            try simp only [Act.put, List.getElem_toArray, List.getElem_cons_zero, List.getElem_cons_succ, List.setIfInBounds_toArray, List.set_cons_zero, List.set_cons_succ]
            refine tkH 18 ?_
            refine wpAnyH_ready (rs := [19]) (by kernel_rfl) (by simp) ?_
            refine AllReadyH.cons rfl (fun K2 hK2 => ?_) AllReadyH.nil
            go_simp
            have h0 := EeAt.first (K := K) (L := L21) ⟨(n : Int), buf, win, chk, most, first, sched⟩ side (n := n) (by simp) HM.out HS.out HO.out HP.out HI.out HT.out
            have hb : Below w21.heap.size w21 (w21.alloc (.cells (nwL ⟨(n : Int), buf, win, chk, most, first, sched⟩ side (.slice (some ⟨gm, 0, none⟩) n n) sb ob pl ib mb).toArray tEnd)) := (Below.refl _ _).alloc (Nat.le_refl _) _
            have ht := Tn.of_below hb L21 K No
            have hNE := hHeld.later hb
            have hTT := TT.out.trans ht
            have hLB := (ht.old w.heap.size hHeld.2.1).trans LB.out
            have hsz := Nat.le_of_lt hHeld.2.1
            obtain ⟨b, hbb⟩ : ∃ b, w21.heap.size = b := ⟨_, rfl⟩
            have HMID := Lib.hid (show EeNw w L K ⟨(n : Int), buf, win, chk, most, first, sched⟩ side b (w21.alloc (.cells (nwL ⟨(n : Int), buf, win, chk, most, first, sched⟩ side (.slice (some ⟨gm, 0, none⟩) n n) sb ob pl ib mb).toArray tEnd)) 0 from ⟨_, _, by rw [← hbb]; exact ⟨_, h0⟩, hTT, hNE.rg, hLB⟩)
            have HSZ := Lib.hid (show w.heap.size ≤ b by rw [← hbb]; exact hsz)
            rw [hbb]
            refine hK2.out _ _ hNE (fun hHeld2 => ?_)
            clear hK2 K2 hHeld h0 hb ht hNE hTT hLB hsz hbb HM HS HO HP HI HT TT LB
            have hHeld := hHeld2
            clear hHeld2
            try simp only [Act.put, List.getElem_toArray, List.getElem_cons_zero, List.getElem_cons_succ, List.setIfInBounds_toArray, List.set_cons_zero, List.set_cons_succ]
            refine tkH 20 ?_
            refine wpAnyH_done (by kernel_rfl) ?_ _
            clear hHeld
            go_wp2
            go_meet
            exact ⟨_, rfl, HSZ, HMID⟩
          · go_simp
            refine (newib_any win w18).mono ?_
            rintro e w22 ⟨ib, ibq, ibg, ibn, rfl, hn, hb⟩
            have HI := Lib.hid (NI.new (L := L18) (K := K) hn)
            clear hn
            have ht := Tn.of_below hb L18 (K + 4) No
            have HS9 := Lib.hid (HS.out.keep ht)
            clear HS
            have HS := HS9
            clear HS9
            have HO9 := Lib.hid (HO.out.keep ht)
            clear HO
            have HO := HO9
            clear HO9
            have HP9 := Lib.hid (HP.out.keep ht)
            clear HP
            have HP := HP9
            clear HP9
            have TT9 := Lib.hid (TT.out.trans ht)
            clear TT
            have TT := TT9
            clear TT9
            have SN := Lib.hid (hHeld.later hb)
            have LB9 := Lib.hid ((ht.old w.heap.size hHeld.2.1).trans LB.out)
            clear LB
            have LB := LB9
            clear LB9
            obtain ⟨L22, hl⟩ : ∃ X, relab L18 w18.heap.size (K + 4) = X := ⟨_, rfl⟩
            rw [hl] at HS HO HP HI TT LB
            clear hl hb ht
            try go_wp2_with fail
            refine hK2.out _ _ SN.out (fun hHeld2 => ?_)
            clear hK2 K2 hHeld SN
            have hHeld := hHeld2
            clear hHeld2
            try simp only [Act.put, List.getElem_toArray, List.getElem_cons_zero, List.getElem_cons_succ, List.setIfInBounds_toArray, List.set_cons_zero, List.set_cons_succ]
            refine wpAnyH_ready (rs := [6, 17]) (by kernel_rfl) (by simp) ?_
            refine AllReadyH.cons rfl (fun K2 hK2 => ?_) (AllReadyH.cons rfl (fun K2 hK2 => ?_) AllReadyH.nil)
            · go_simp
              have ho := Own.newK .i64 w22 (List.replicate n 0) 3 (by simp [maxLen]; have := HNN.out; omega)
              rw [List.length_replicate] at ho
              have hb : Below w22.heap.size w22 (w22.alloc (.cells (cel .i64 (List.replicate n 0)).toArray 3)) := (Below.refl _ _).alloc (Nat.le_refl _) _
              obtain ⟨w23, hw⟩ : ∃ X : World, World.alloc w22 (.cells (cel .i64 (List.replicate n 0)).toArray 3) = X := ⟨_, rfl⟩
              rw [hw] at ho hb ⊢
              have HM := Lib.hid (NM.new (L := L22) (K := K) ho)
              clear hw ho
              have ht := Tn.of_below hb L22 (K + 2) No
              have HS9 := Lib.hid (HS.out.keep ht)
              clear HS
              have HS := HS9
              clear HS9
              have HO9 := Lib.hid (HO.out.keep ht)
              clear HO
              have HO := HO9
              clear HO9
              have HP9 := Lib.hid (HP.out.keep ht)
              clear HP
              have HP := HP9
              clear HP9
              have HI9 := Lib.hid (HI.out.keep ht)
              clear HI
              have HI := HI9
              clear HI9
              have TT9 := Lib.hid (TT.out.trans ht)
              clear TT
              have TT := TT9
              clear TT9
              have SN := Lib.hid (hHeld.later hb)
              have LB9 := Lib.hid ((ht.old w.heap.size hHeld.2.1).trans LB.out)
              clear LB
              have LB := LB9
              clear LB9
              obtain ⟨L23, hl⟩ : ∃ X, relab L22 w22.heap.size (K + 2) = X := ⟨_, rfl⟩
              rw [hl] at HS HO HP HI HM TT LB
              obtain ⟨gm, hg⟩ : ∃ X, w22.heap.size = X := ⟨_, rfl⟩
              rw [hg] at HM ⊢
              clear hl hg hb ht
              try go_wp2_with fail
              refine hK2.out _ _ SN.out (fun hHeld2 => ?_)
              clear hK2 K2 hHeld SN
              have hHeld := hHeld2
              clear hHeld2
              try simp only [Act.put, List.getElem_toArray, List.getElem_cons_zero, List.getElem_cons_succ, List.setIfInBounds_toArray, List.set_cons_zero, List.set_cons_succ]
              refine wpAnyH_ready (rs := [17]) (by kernel_rfl) (by simp) ?_
              refine AllReadyH.cons rfl (fun K2 hK2 => ?_) AllReadyH.nil
              go_simp
              refine (newmet_any w23).mono ?_
              rintro e w24 ⟨rfl, hn, hb, -⟩
              have HT := Lib.hid (NT.new (L := L23) (K := K) hn)
              clear hn
              have ht := Tn.of_below hb L23 (K + 11) No
              have HS9 := Lib.hid (HS.out.keep ht)
              clear HS
              have HS := HS9
              clear HS9
              have HO9 := Lib.hid (HO.out.keep ht)
              clear HO
              have HO := HO9
              clear HO9
              have HP9 := Lib.hid (HP.out.keep ht)
              clear HP
              have HP := HP9
              clear HP9
              have HI9 := Lib.hid (HI.out.keep ht)
              clear HI
              have HI := HI9
              clear HI9
              have HM9 := Lib.hid (HM.out.keep ht)
              clear HM
              have HM := HM9
              clear HM9
              have TT9 := Lib.hid (TT.out.trans ht)
              clear TT
              have TT := TT9
              clear TT9
              have SN := Lib.hid (hHeld.later hb)
              have LB9 := Lib.hid ((ht.old w.heap.size hHeld.2.1).trans LB.out)
              clear LB
              have LB := LB9
              clear LB9
              obtain ⟨L24, hl⟩ : ∃ X, relab L23 w23.heap.size (K + 11) = X := ⟨_, rfl⟩
              rw [hl] at HS HO HP HI HM HT TT LB
              obtain ⟨mb, hg⟩ : ∃ X, w23.heap.size = X := ⟨_, rfl⟩
              rw [hg] at HT ⊢
              clear hl hg hb ht
              try go_wp2_with fail
              refine hK2.out _ _ SN.out (fun hHeld2 => ?_)
              clear hK2 K2 hHeld SN
              have hHeld := hHeld2
              clear hHeld2
              try simp only [Act.put, List.getElem_toArray, List.getElem_cons_zero, List.getElem_cons_succ, List.setIfInBounds_toArray, List.set_cons_zero, List.set_cons_succ]
              refine tkH 18 ?_
              refine wpAnyH_ready (rs := [19]) (by kernel_rfl) (by simp) ?_
              refine AllReadyH.cons rfl (fun K2 hK2 => ?_) AllReadyH.nil
              go_simp
              have h0 := EeAt.first (K := K) (L := L24) ⟨(n : Int), buf, win, chk, most, first, sched⟩ side (n := n) (by simp) HM.out HS.out HO.out HP.out HI.out HT.out
              have hb : Below w24.heap.size w24 (w24.alloc (.cells (nwL ⟨(n : Int), buf, win, chk, most, first, sched⟩ side (.slice (some ⟨gm, 0, none⟩) n n) sb ob pl ib mb).toArray tEnd)) := (Below.refl _ _).alloc (Nat.le_refl _) _
              have ht := Tn.of_below hb L24 K No
              have hNE := hHeld.later hb
              have hTT := TT.out.trans ht
              have hLB := (ht.old w.heap.size hHeld.2.1).trans LB.out
              have hsz := Nat.le_of_lt hHeld.2.1
              obtain ⟨b, hbb⟩ : ∃ b, w24.heap.size = b := ⟨_, rfl⟩
              have HMID := Lib.hid (show EeNw w L K ⟨(n : Int), buf, win, chk, most, first, sched⟩ side b (w24.alloc (.cells (nwL ⟨(n : Int), buf, win, chk, most, first, sched⟩ side (.slice (some ⟨gm, 0, none⟩) n n) sb ob pl ib mb).toArray tEnd)) 0 from ⟨_, _, by rw [← hbb]; exact ⟨_, h0⟩, hTT, hNE.rg, hLB⟩)
              have HSZ := Lib.hid (show w.heap.size ≤ b by rw [← hbb]; exact hsz)
              rw [hbb]
              refine hK2.out _ _ hNE (fun hHeld2 => ?_)
              clear hK2 K2 hHeld h0 hb ht hNE hTT hLB hsz hbb HM HS HO HP HI HT TT LB
              have hHeld := hHeld2
              clear hHeld2
              try simp only [Act.put, List.getElem_toArray, List.getElem_cons_zero, List.getElem_cons_succ, List.setIfInBounds_toArray, List.set_cons_zero, List.set_cons_succ]
              refine tkH 20 ?_
              refine wpAnyH_done (by kernel_rfl) ?_ _
              clear hHeld
              go_wp2
              go_meet
              exact ⟨_, rfl, HSZ, HMID⟩
            · go_simp
              refine (newmet_any w22).mono ?_
              rintro e w25 ⟨rfl, hn, hb, -⟩
              have HT := Lib.hid (NT.new (L := L22) (K := K) hn)
              clear hn
              have ht := Tn.of_below hb L22 (K + 11) No
              have HS9 := Lib.hid (HS.out.keep ht)
              clear HS
              have HS := HS9
              clear HS9
              have HO9 := Lib.hid (HO.out.keep ht)
              clear HO
              have HO := HO9
              clear HO9
              have HP9 := Lib.hid (HP.out.keep ht)
              clear HP
              have HP := HP9
              clear HP9
              have HI9 := Lib.hid (HI.out.keep ht)
              clear HI
              have HI := HI9
              clear HI9
              have TT9 := Lib.hid (TT.out.trans ht)
              clear TT
              have TT := TT9
              clear TT9
              have SN := Lib.hid (hHeld.later hb)
              have LB9 := Lib.hid ((ht.old w.heap.size hHeld.2.1).trans LB.out)
              clear LB
              have LB := LB9
              clear LB9
              obtain ⟨L25, hl⟩ : ∃ X, relab L22 w22.heap.size (K + 11) = X := ⟨_, rfl⟩
              rw [hl] at HS HO HP HI HT TT LB
              obtain ⟨mb, hg⟩ : ∃ X, w22.heap.size = X := ⟨_, rfl⟩
              rw [hg] at HT ⊢
              clear hl hg hb ht
              try go_wp2_with fail
              refine hK2.out _ _ SN.out (fun hHeld2 => ?_)
              clear hK2 K2 hHeld SN
              have hHeld := hHeld2
              clear hHeld2
              try simp only [Act.put, List.getElem_toArray, List.getElem_cons_zero, List.getElem_cons_succ, List.setIfInBounds_toArray, List.set_cons_zero, List.set_cons_succ]
              refine wpAnyH_ready (rs := [6]) (by kernel_rfl) (by simp) ?_
              refine AllReadyH.cons rfl (fun K2 hK2 => ?_) AllReadyH.nil
              go_simp
              have ho := Own.newK .i64 w25 (List.replicate n 0) 3 (by simp [maxLen]; have := HNN.out; omega)
              rw [List.length_replicate] at ho
              have hb : Below w25.heap.size w25 (w25.alloc (.cells (cel .i64 (List.replicate n 0)).toArray 3)) := (Below.refl _ _).alloc (Nat.le_refl _) _
              obtain ⟨w26, hw⟩ : ∃ X : World, World.alloc w25 (.cells (cel .i64 (List.replicate n 0)).toArray 3) = X := ⟨_, rfl⟩
              rw [hw] at ho hb ⊢
              have HM := Lib.hid (NM.new (L := L25) (K := K) ho)
              clear hw ho
              have ht := Tn.of_below hb L25 (K + 2) No
              have HS9 := Lib.hid (HS.out.keep ht)
              clear HS
              have HS := HS9
              clear HS9
              have HO9 := Lib.hid (HO.out.keep ht)
              clear HO
              have HO := HO9
              clear HO9
              have HP9 := Lib.hid (HP.out.keep ht)
              clear HP
              have HP := HP9
              clear HP9
              have HI9 := Lib.hid (HI.out.keep ht)
              clear HI
              have HI := HI9
              clear HI9
              have HT9 := Lib.hid (HT.out.keep ht)
              clear HT
              have HT := HT9
              clear HT9
              have TT9 := Lib.hid (TT.out.trans ht)
              clear TT
              have TT := TT9
              clear TT9
              have SN := Lib.hid (hHeld.later hb)
              have LB9 := Lib.hid ((ht.old w.heap.size hHeld.2.1).trans LB.out)
              clear LB
              have LB := LB9
              clear LB9
              obtain ⟨L26, hl⟩ : ∃ X, relab L25 w25.heap.size (K + 2) = X := ⟨_, rfl⟩
              rw [hl] at HS HO HP HI HT HM TT LB
              obtain ⟨gm, hg⟩ : ∃ X, w25.heap.size = X := ⟨_, rfl⟩
              rw [hg] at HM ⊢
              clear hl hg hb ht
              try go_wp2_with fail
              refine hK2.out _ _ SN.out (fun hHeld2 => ?_)
              clear hK2 K2 hHeld SN
              have hHeld := hHeld2
              clear hHeld2
              try simp only [Act.put, List.getElem_toArray, List.getElem_cons_zero, List.getElem_cons_succ, List.setIfInBounds_toArray, List.set_cons_zero, List.set_cons_succ]
              refine tkH 18 ?_
              refine wpAnyH_ready (rs := [19]) (by kernel_rfl) (by simp) ?_
              refine AllReadyH.cons rfl (fun K2 hK2 => ?_) AllReadyH.nil
              go_simp
              have h0 := EeAt.first (K := K) (L := L26) ⟨(n : Int), buf, win, chk, most, first, sched⟩ side (n := n) (by simp) HM.out HS.out HO.out HP.out HI.out HT.out
              have hb : Below w26.heap.size w26 (w26.alloc (.cells (nwL ⟨(n : Int), buf, win, chk, most, first, sched⟩ side (.slice (some ⟨gm, 0, none⟩) n n) sb ob pl ib mb).toArray tEnd)) := (Below.refl _ _).alloc (Nat.le_refl _) _
              have ht := Tn.of_below hb L26 K No
              have hNE := hHeld.later hb
              have hTT := TT.out.trans ht
              have hLB := (ht.old w.heap.size hHeld.2.1).trans LB.out
              have hsz := Nat.le_of_lt hHeld.2.1
              obtain ⟨b, hbb⟩ : ∃ b, w26.heap.size = b := ⟨_, rfl⟩
              have HMID := Lib.hid (show EeNw w L K ⟨(n : Int), buf, win, chk, most, first, sched⟩ side b (w26.alloc (.cells (nwL ⟨(n : Int), buf, win, chk, most, first, sched⟩ side (.slice (some ⟨gm, 0, none⟩) n n) sb ob pl ib mb).toArray tEnd)) 0 from ⟨_, _, by rw [← hbb]; exact ⟨_, h0⟩, hTT, hNE.rg, hLB⟩)
              have HSZ := Lib.hid (show w.heap.size ≤ b by rw [← hbb]; exact hsz)
              rw [hbb]
              refine hK2.out _ _ hNE (fun hHeld2 => ?_)
              clear hK2 K2 hHeld h0 hb ht hNE hTT hLB hsz hbb HM HS HO HP HI HT TT LB
              have hHeld := hHeld2
              clear hHeld2
              try simp only [Act.put, List.getElem_toArray, List.getElem_cons_zero, List.getElem_cons_succ, List.setIfInBounds_toArray, List.set_cons_zero, List.set_cons_succ]
              refine tkH 20 ?_
              refine wpAnyH_done (by kernel_rfl) ?_ _
              clear hHeld
              go_wp2
              go_meet
              exact ⟨_, rfl, HSZ, HMID⟩
  case rest =>
  obtain ⟨b, rfl, HSZ, HM0⟩ := hcut
  clear hmk
  obtain ⟨s0, L00, h00, ht00, hRG00, hLB00⟩ := id HM0.out
  have z00 := hRG00.c 0 rfl
  clear h00 ht00 hRG00 hLB00
  go_wp2_with fail
  clear z00
  go_loopw [41] (fun iv wr => ∃ j : Nat, j ≤ n ∧ iv = .int .i64 j ∧ Hid (EeNw w L K ⟨(n : Int), buf, win, chk, most, first, sched⟩ side b wr j)) (fun iv _ => n - (intOf iv).toNat)
  case atStart => exact ⟨0, by have := HNN.out; omega, rfl, HM0⟩
  case round =>
    clear HM0
    obtain ⟨j, hj, rfl, hmid⟩ := hrel
    by_cases hjn : j < n
    · obtain ⟨s, L3, ⟨q, h3⟩, ht3, hRG, hLB⟩ := hmid.out
      obtain ⟨W0, hW0⟩ : ∃ X : World, wr.drew = X := ⟨_, rfl⟩
      have hd : EeAt W0 L3 K b s q (En.part ⟨(n : Int), buf, win, chk, most, first, sched⟩ side j) := by rw [← hW0]; exact h3.drewN 1
      have hTT : Tn w W0 L L3 No := by rw [← hW0]; exact ht3.trans (Tn.drewN wr L3 1 _)
      have hRG0 : RgS w [.int .i64 (n : Int), .int .i64 buf, .int .i64 win, .int .i64 chk, .int .i64 most, .int .i64 first, .int .i64 sched] W0 := by rw [← hW0]; exact RgS.later hRG (Below.refl _ _).drew
      obtain ⟨A, c, hpf⟩ := hd.p.pvr.form
      have hpv : s.pv = .slice A j c := by
        have := hd.p.pbn
        have e : (En.part ⟨(n : Int), buf, win, chk, most, first, sched⟩ side j).view.ps.length = j := by simp [En.part]
        rw [e] at this
        rw [← this]
        exact hpf
      have HC := Lib.hid (show ∀ wi, Below W0.heap.size W0 wi → wi.cell? ⟨b, 0 + 10, none⟩ = some (.slice A j c) ∧ True from fun wi hb => ⟨by rw [← hpv]; exact (hd.grow hb 0).cell 10 (by omega), trivial⟩)
      have c10 : W0.cell? ⟨b, 0 + 10, none⟩ = some (.slice A j c) := (HC.out W0 (Below.refl _ _)).1
      have hblk : ∀ wi wj, Below W0.heap.size W0 wi → wi.grownBy wj s.pv.ownBlock → wj.rowIs b tEnd 19 (fun i => (eeL s q (En.part ⟨(n : Int), buf, win, chk, most, first, sched⟩ side j)).getD i undef) := fun wi wj hb hg => by
        have h9 := hd.grow hb 0
        refine World.rowIs.of_block h9.row (hg.block b h9.lt (fun e => ?_))
        have h8 := hd.p.pvl b e.symm
        have h7 := hd.lb
        omega
      have FRZ := Lib.hid (show ∀ wj {wi : World}, Below W0.heap.size W0 wi → wi.grownBy wj s.pv.ownBlock → wj.frozen? ⟨b, 0 + 10, none⟩ = false from fun wj wi hb hg => World.rowIs.frozen (hblk wi wj hb hg) 10)
      have HX9 := Lib.hid (show ∀ wj {wi : World}, Below W0.heap.size W0 wi → wi.grownBy wj s.pv.ownBlock → ∃ u, wj.cell? ⟨b, 0 + 10, none⟩ = some u from fun wj wi hb hg => ⟨_, World.rowIs.cell (i := 10) (hblk wi wj hb hg) (by omega)⟩)
      have S0 := Lib.hid hRG0
      have HD := Lib.hid (And.intro hd (And.intro hpv (And.intro hTT (And.intro hLB (And.intro hjn (show j < 3 by have := HNN.out; omega))))))
      have HJ := Lib.hid hjn
      have HJW := Lib.hid (show wrap64 ((j : Int) + 1) = ((j + 1 : Nat) : Int) from wrap_atS (by omega) (by omega) (by have := HNN.out; omega))
      have i1 : (j : Int) < (n : Int) := by omega
      clear hd hTT hRG0 hRG hpf hpv hblk hLB ht3 h3 hmid hj hjn
      go_wp2_with fail
      refine wp_region_held_drew (S := RgS w [.int .i64 (n : Int), .int .i64 buf, .int .i64 win, .int .i64 chk, .int .i64 most, .int .i64 first, .int .i64 sched]) (by kernel_rfl) (by rw [hW0]; exact S0.out) ?_
      intro hHeld
      rw [hW0] at hHeld ⊢
      clear hW0
      refine tkH 0 ?_
      refine tkH 1 ?_
      refine tkH 2 ?_
      refine tkH 3 ?_
      refine wpAnyH_take (i := 5) (v := .agg ([.int .i64 (n : Int), .int .i64 buf, .int .i64 win, .int .i64 chk, .int .i64 most, .int .i64 first, .int .i64 sched]).toArray) rfl (by kernel_rfl) (by kernel_rfl) (by kernel_rfl) (fun _ _ _ h => h) (yieldsIf_load_mid (by rfl) 26 (.tmp 2) rfl _ _ rfl ([.int .i64 (n : Int), .int .i64 buf, .int .i64 win, .int .i64 chk, .int .i64 most, .int .i64 first, .int .i64 sched]) _ (fun w2 h2 => h2.2) Tryz.underlying26 rfl (by kernel_rfl)) (by assumption) ?_
      try simp only [Act.put, List.getElem_toArray, List.getElem_cons_zero, List.getElem_cons_succ, List.setIfInBounds_toArray, List.set_cons_zero, List.set_cons_succ]
      refine wpAnyH_ready (rs := [4, 6]) (by kernel_rfl) (by simp) ?_
      refine AllReadyH.cons rfl (fun K2 hK2 => ?_) (AllReadyH.cons rfl (fun K2 hK2 => ?_) AllReadyH.nil)
      · go_simp
        refine hK2.out _ _ S0.out (fun hHeld2 => ?_)
        clear hK2 K2 hHeld
        have hHeld := hHeld2
        clear hHeld2
        try simp only [Act.put, List.getElem_toArray, List.getElem_cons_zero, List.getElem_cons_succ, List.setIfInBounds_toArray, List.set_cons_zero, List.set_cons_succ]
        refine wpAnyH_ready (rs := [6]) (by kernel_rfl) (by simp) ?_
        refine AllReadyH.cons rfl (fun K2 hK2 => ?_) AllReadyH.nil
        go_simp
        refine (newpa_any (n : Int) buf win chk most first sched W0).mono ?_
        rintro e w1 ⟨p, pg, pw, pf, rfl, hp, hb⟩
        have C1 := Lib.hid (HC.out w1 hb)
        have c10 := (HC.out w1 hb).1
        have S1 := Lib.hid (RgS.later S0.out hb)
        have HP := Lib.hid (And.intro hp hb)
        clear hp hb
        try go_wp2_with fail
        refine hK2.out _ _ S1.out (fun hHeld2 => ?_)
        clear hK2 K2 hHeld
        have hHeld := hHeld2
        clear hHeld2
        try simp only [Act.put, List.getElem_toArray, List.getElem_cons_zero, List.getElem_cons_succ, List.setIfInBounds_toArray, List.set_cons_zero, List.set_cons_succ]
        refine wpAnyH_ready (rs := [7]) (by kernel_rfl) (by simp) ?_
        refine AllReadyH.cons rfl (fun K2 hK2 => ?_) AllReadyH.nil
        go_simp
        obtain ⟨w2, hw2⟩ : ∃ X : World, w1.alloc (.cells #[.pointer (some ⟨p, 0, none⟩)] tPPa) = X := ⟨_, rfl⟩
        have hb2 : Below w1.heap.size w1 w2 := by rw [← hw2]; exact (Below.refl _ _).alloc (Nat.le_refl _) _
        have hct : w2.cell? ⟨w1.heap.size, 0, none⟩ = some (.pointer (some ⟨p, 0, none⟩)) := by rw [← hw2]; exact World.cell?_alloc_at _ _ _ _ rfl
        rw [hw2]
        clear hw2
        obtain ⟨gt, hgt⟩ : ∃ X, w1.heap.size = X := ⟨_, rfl⟩
        have HG := Lib.hid hgt
        rw [hgt] at hct ⊢
        clear hgt
        have hb3 : Below W0.heap.size W0 w2 := HP.out.2.trans (hb2.mono HP.out.2.size)
        have c10 := (HC.out w2 hb3).1
        have S2 := Lib.hid (RgS.later S1.out hb2)
        have HB2 := Lib.hid (And.intro hb2 hb3)
        have HCT := Lib.hid hct
        clear hb2 hb3 hct
        refine hK2.out _ _ S2.out (fun hHeld2 => ?_)
        clear hK2 K2 hHeld
        have hHeld := hHeld2
        clear hHeld2
        try simp only [Act.put, List.getElem_toArray, List.getElem_cons_zero, List.getElem_cons_succ, List.setIfInBounds_toArray, List.set_cons_zero, List.set_cons_succ]
        refine wpAnyH_ready (rs := [8]) (by kernel_rfl) (by simp) ?_
        refine AllReadyH.cons rfl (fun K2 hK2 => ?_) AllReadyH.nil
        obtain ⟨hd, hpv, hTT, hLB, hnj, hj3⟩ := HD.out
        have hpr2 := (hd.grow HB2.out.2 0).p.pvr
        have hpbn : s.pb.length = (En.part ⟨(n : Int), buf, win, chk, most, first, sched⟩ side j).ps.length := hd.p.pbn
        have hpl : (En.part ⟨(n : Int), buf, win, chk, most, first, sched⟩ side j).ps.length = j := by simp [En.part]
        rw [hpl] at hpbn
        obtain ⟨A', c', w3, hrun, hr3, hg3, hf3⟩ := run_appPtr (P := Tryz.prog) hpr2 p 92 92 Tryz.underlying92 (by kernel_rfl) (by omega) ⟨gt, 0, none⟩ 1 HCT.out
        rw [hpbn] at hrun hr3 hf3
        rw [hpv] at hrun
        refine step_app_r4 (by rfl) (.tmp 47) (.tmp 50) 92 rfl _ _ _ rfl rfl hrun ?_
        clear hrun
        have hne : s.pv.ownBlock ≠ some w.heap.size := fun e => by have := hd.p.pvl _ e; omega
        have hrs3 := RgS.grown S2.out hg3 hne
        have S3 := Lib.hid hrs3
        obtain ⟨L4, s4, q4, hd4, ht4⟩ := hd.addP hK (by rw [hpl]; omega) HP.out.2 HP.out.1 HB2.out.1 hr3 hg3 hf3
        have hbw : b ≠ w.heap.size := fun e => by have := hd.lb; rw [e] at this; omega
        have hrs4 := RgS.grown (wj := w3.setCell ⟨b, 10, none⟩ (.slice A' (j + 1) c')) hrs3 (setCell_one w3 b 10 _) (by simp; exact hbw)
        have S4 := Lib.hid hrs4
        have hlt0 : w.heap.size < W0.heap.size := S0.out.1
        have HMID := Lib.hid (show EeNw w L K ⟨(n : Int), buf, win, chk, most, first, sched⟩ side b (w3.setCell ⟨b, 10, none⟩ (.slice A' (j + 1) c')) (j + 1) from ⟨s4, L4, by rw [← part_next]; exact ⟨_, hd4⟩, hTT.no ht4 HLL.out, hrs4, (ht4.old _ hlt0).trans hLB⟩)
        have fr3 : w3.frozen? ⟨b, 0 + 10, none⟩ = false := FRZ.out w3 (HB2.out.2) hg3
        have hx3 : ∃ u, w3.cell? ⟨b, 0 + 10, none⟩ = some u := HX9.out w3 (HB2.out.2) hg3
        obtain ⟨u9, hx3⟩ := hx3
        clear hd hpv hTT hLB hnj hj3 hpr2 hpbn hpl hr3 hg3 hf3 hne hrs3 hd4 ht4 hbw hrs4 hlt0
        refine hK2.out _ _ S3.out (fun hHeld2 => ?_)
        clear hK2 K2 hHeld
        have hHeld := hHeld2
        clear hHeld2
        try simp only [Act.put, List.getElem_toArray, List.getElem_cons_zero, List.getElem_cons_succ, List.setIfInBounds_toArray, List.set_cons_zero, List.set_cons_succ]
        refine tkH 9 ?_
        refine tkH 10 ?_
        refine wpAnyH_ready (rs := [11]) (by kernel_rfl) (by simp) ?_
        refine AllReadyH.cons rfl (fun K2 hK2 => ?_) AllReadyH.nil
        go_simp
        refine hK2.out _ _ S4.out (fun hHeld2 => ?_)
        clear hK2 K2 hHeld
        have hHeld := hHeld2
        clear hHeld2
        try simp only [Act.put, List.getElem_toArray, List.getElem_cons_zero, List.getElem_cons_succ, List.setIfInBounds_toArray, List.set_cons_zero, List.set_cons_succ]
        refine wpAnyH_done (by kernel_rfl) ?_ _
        clear hHeld
        go_wp2
        go_roundw
        case rel => exact ⟨j + 1, by have := HJ.out; omega, by first | rfl | rw [HJW.out], HMID⟩
        case measure => (try rw [HJW.out]); have := HJ.out; simp [intOf]; omega
      · go_simp
        refine (newpa_any (n : Int) buf win chk most first sched W0).mono ?_
        rintro e w1 ⟨p, pg, pw, pf, rfl, hp, hb⟩
        have C1 := Lib.hid (HC.out w1 hb)
        have c10 := (HC.out w1 hb).1
        have S1 := Lib.hid (RgS.later S0.out hb)
        have HP := Lib.hid (And.intro hp hb)
        clear hp hb
        try go_wp2_with fail
        refine hK2.out _ _ S1.out (fun hHeld2 => ?_)
        clear hK2 K2 hHeld
        have hHeld := hHeld2
        clear hHeld2
        try simp only [Act.put, List.getElem_toArray, List.getElem_cons_zero, List.getElem_cons_succ, List.setIfInBounds_toArray, List.set_cons_zero, List.set_cons_succ]
        refine wpAnyH_ready (rs := [4, 7]) (by kernel_rfl) (by simp) ?_
        refine AllReadyH.cons rfl (fun K2 hK2 => ?_) (AllReadyH.cons rfl (fun K2 hK2 => ?_) AllReadyH.nil)
        · go_simp
          refine hK2.out _ _ S1.out (fun hHeld2 => ?_)
          clear hK2 K2 hHeld
          have hHeld := hHeld2
          clear hHeld2
          try simp only [Act.put, List.getElem_toArray, List.getElem_cons_zero, List.getElem_cons_succ, List.setIfInBounds_toArray, List.set_cons_zero, List.set_cons_succ]
          refine wpAnyH_ready (rs := [7]) (by kernel_rfl) (by simp) ?_
          refine AllReadyH.cons rfl (fun K2 hK2 => ?_) AllReadyH.nil
          go_simp
          obtain ⟨w2, hw2⟩ : ∃ X : World, w1.alloc (.cells #[.pointer (some ⟨p, 0, none⟩)] tPPa) = X := ⟨_, rfl⟩
          have hb2 : Below w1.heap.size w1 w2 := by rw [← hw2]; exact (Below.refl _ _).alloc (Nat.le_refl _) _
          have hct : w2.cell? ⟨w1.heap.size, 0, none⟩ = some (.pointer (some ⟨p, 0, none⟩)) := by rw [← hw2]; exact World.cell?_alloc_at _ _ _ _ rfl
          rw [hw2]
          clear hw2
          obtain ⟨gt, hgt⟩ : ∃ X, w1.heap.size = X := ⟨_, rfl⟩
          have HG := Lib.hid hgt
          rw [hgt] at hct ⊢
          clear hgt
          have hb3 : Below W0.heap.size W0 w2 := HP.out.2.trans (hb2.mono HP.out.2.size)
          have c10 := (HC.out w2 hb3).1
          have S2 := Lib.hid (RgS.later S1.out hb2)
          have HB2 := Lib.hid (And.intro hb2 hb3)
          have HCT := Lib.hid hct
          clear hb2 hb3 hct
          refine hK2.out _ _ S2.out (fun hHeld2 => ?_)
          clear hK2 K2 hHeld
          have hHeld := hHeld2
          clear hHeld2
          try simp only [Act.put, List.getElem_toArray, List.getElem_cons_zero, List.getElem_cons_succ, List.setIfInBounds_toArray, List.set_cons_zero, List.set_cons_succ]
          refine wpAnyH_ready (rs := [8]) (by kernel_rfl) (by simp) ?_
          refine AllReadyH.cons rfl (fun K2 hK2 => ?_) AllReadyH.nil
          obtain ⟨hd, hpv, hTT, hLB, hnj, hj3⟩ := HD.out
          have hpr2 := (hd.grow HB2.out.2 0).p.pvr
          have hpbn : s.pb.length = (En.part ⟨(n : Int), buf, win, chk, most, first, sched⟩ side j).ps.length := hd.p.pbn
          have hpl : (En.part ⟨(n : Int), buf, win, chk, most, first, sched⟩ side j).ps.length = j := by simp [En.part]
          rw [hpl] at hpbn
          obtain ⟨A', c', w3, hrun, hr3, hg3, hf3⟩ := run_appPtr (P := Tryz.prog) hpr2 p 92 92 Tryz.underlying92 (by kernel_rfl) (by omega) ⟨gt, 0, none⟩ 1 HCT.out
          rw [hpbn] at hrun hr3 hf3
          rw [hpv] at hrun
          refine step_app_r4 (by rfl) (.tmp 47) (.tmp 50) 92 rfl _ _ _ rfl rfl hrun ?_
          clear hrun
          have hne : s.pv.ownBlock ≠ some w.heap.size := fun e => by have := hd.p.pvl _ e; omega
          have hrs3 := RgS.grown S2.out hg3 hne
          have S3 := Lib.hid hrs3
          obtain ⟨L4, s4, q4, hd4, ht4⟩ := hd.addP hK (by rw [hpl]; omega) HP.out.2 HP.out.1 HB2.out.1 hr3 hg3 hf3
          have hbw : b ≠ w.heap.size := fun e => by have := hd.lb; rw [e] at this; omega
          have hrs4 := RgS.grown (wj := w3.setCell ⟨b, 10, none⟩ (.slice A' (j + 1) c')) hrs3 (setCell_one w3 b 10 _) (by simp; exact hbw)
          have S4 := Lib.hid hrs4
          have hlt0 : w.heap.size < W0.heap.size := S0.out.1
          have HMID := Lib.hid (show EeNw w L K ⟨(n : Int), buf, win, chk, most, first, sched⟩ side b (w3.setCell ⟨b, 10, none⟩ (.slice A' (j + 1) c')) (j + 1) from ⟨s4, L4, by rw [← part_next]; exact ⟨_, hd4⟩, hTT.no ht4 HLL.out, hrs4, (ht4.old _ hlt0).trans hLB⟩)
          have fr3 : w3.frozen? ⟨b, 0 + 10, none⟩ = false := FRZ.out w3 (HB2.out.2) hg3
          have hx3 : ∃ u, w3.cell? ⟨b, 0 + 10, none⟩ = some u := HX9.out w3 (HB2.out.2) hg3
          obtain ⟨u9, hx3⟩ := hx3
          clear hd hpv hTT hLB hnj hj3 hpr2 hpbn hpl hr3 hg3 hf3 hne hrs3 hd4 ht4 hbw hrs4 hlt0
          refine hK2.out _ _ S3.out (fun hHeld2 => ?_)
          clear hK2 K2 hHeld
          have hHeld := hHeld2
          clear hHeld2
          try simp only [Act.put, List.getElem_toArray, List.getElem_cons_zero, List.getElem_cons_succ, List.setIfInBounds_toArray, List.set_cons_zero, List.set_cons_succ]
          refine tkH 9 ?_
          refine tkH 10 ?_
          refine wpAnyH_ready (rs := [11]) (by kernel_rfl) (by simp) ?_
          refine AllReadyH.cons rfl (fun K2 hK2 => ?_) AllReadyH.nil
          go_simp
          refine hK2.out _ _ S4.out (fun hHeld2 => ?_)
          clear hK2 K2 hHeld
          have hHeld := hHeld2
          clear hHeld2
          try simp only [Act.put, List.getElem_toArray, List.getElem_cons_zero, List.getElem_cons_succ, List.setIfInBounds_toArray, List.set_cons_zero, List.set_cons_succ]
          refine wpAnyH_done (by kernel_rfl) ?_ _
          clear hHeld
          go_wp2
          go_roundw
          case rel => exact ⟨j + 1, by have := HJ.out; omega, by first | rfl | rw [HJW.out], HMID⟩
          case measure => (try rw [HJW.out]); have := HJ.out; simp [intOf]; omega
        · go_simp
          obtain ⟨w2, hw2⟩ : ∃ X : World, w1.alloc (.cells #[.pointer (some ⟨p, 0, none⟩)] tPPa) = X := ⟨_, rfl⟩
          have hb2 : Below w1.heap.size w1 w2 := by rw [← hw2]; exact (Below.refl _ _).alloc (Nat.le_refl _) _
          have hct : w2.cell? ⟨w1.heap.size, 0, none⟩ = some (.pointer (some ⟨p, 0, none⟩)) := by rw [← hw2]; exact World.cell?_alloc_at _ _ _ _ rfl
          rw [hw2]
          clear hw2
          obtain ⟨gt, hgt⟩ : ∃ X, w1.heap.size = X := ⟨_, rfl⟩
          have HG := Lib.hid hgt
          rw [hgt] at hct ⊢
          clear hgt
          have hb3 : Below W0.heap.size W0 w2 := HP.out.2.trans (hb2.mono HP.out.2.size)
          have c10 := (HC.out w2 hb3).1
          have S2 := Lib.hid (RgS.later S1.out hb2)
          have HB2 := Lib.hid (And.intro hb2 hb3)
          have HCT := Lib.hid hct
          clear hb2 hb3 hct
          refine hK2.out _ _ S2.out (fun hHeld2 => ?_)
          clear hK2 K2 hHeld
          have hHeld := hHeld2
          clear hHeld2
          try simp only [Act.put, List.getElem_toArray, List.getElem_cons_zero, List.getElem_cons_succ, List.setIfInBounds_toArray, List.set_cons_zero, List.set_cons_succ]
          refine wpAnyH_ready (rs := [4]) (by kernel_rfl) (by simp) ?_
          refine AllReadyH.cons rfl (fun K2 hK2 => ?_) AllReadyH.nil
          go_simp
          refine hK2.out _ _ S2.out (fun hHeld2 => ?_)
          clear hK2 K2 hHeld
          have hHeld := hHeld2
          clear hHeld2
          try simp only [Act.put, List.getElem_toArray, List.getElem_cons_zero, List.getElem_cons_succ, List.setIfInBounds_toArray, List.set_cons_zero, List.set_cons_succ]
          refine wpAnyH_ready (rs := [8]) (by kernel_rfl) (by simp) ?_
          refine AllReadyH.cons rfl (fun K2 hK2 => ?_) AllReadyH.nil
          obtain ⟨hd, hpv, hTT, hLB, hnj, hj3⟩ := HD.out
          have hpr2 := (hd.grow HB2.out.2 0).p.pvr
          have hpbn : s.pb.length = (En.part ⟨(n : Int), buf, win, chk, most, first, sched⟩ side j).ps.length := hd.p.pbn
          have hpl : (En.part ⟨(n : Int), buf, win, chk, most, first, sched⟩ side j).ps.length = j := by simp [En.part]
          rw [hpl] at hpbn
          obtain ⟨A', c', w3, hrun, hr3, hg3, hf3⟩ := run_appPtr (P := Tryz.prog) hpr2 p 92 92 Tryz.underlying92 (by kernel_rfl) (by omega) ⟨gt, 0, none⟩ 1 HCT.out
          rw [hpbn] at hrun hr3 hf3
          rw [hpv] at hrun
          refine step_app_r4 (by rfl) (.tmp 47) (.tmp 50) 92 rfl _ _ _ rfl rfl hrun ?_
          clear hrun
          have hne : s.pv.ownBlock ≠ some w.heap.size := fun e => by have := hd.p.pvl _ e; omega
          have hrs3 := RgS.grown S2.out hg3 hne
          have S3 := Lib.hid hrs3
          obtain ⟨L4, s4, q4, hd4, ht4⟩ := hd.addP hK (by rw [hpl]; omega) HP.out.2 HP.out.1 HB2.out.1 hr3 hg3 hf3
          have hbw : b ≠ w.heap.size := fun e => by have := hd.lb; rw [e] at this; omega
          have hrs4 := RgS.grown (wj := w3.setCell ⟨b, 10, none⟩ (.slice A' (j + 1) c')) hrs3 (setCell_one w3 b 10 _) (by simp; exact hbw)
          have S4 := Lib.hid hrs4
          have hlt0 : w.heap.size < W0.heap.size := S0.out.1
          have HMID := Lib.hid (show EeNw w L K ⟨(n : Int), buf, win, chk, most, first, sched⟩ side b (w3.setCell ⟨b, 10, none⟩ (.slice A' (j + 1) c')) (j + 1) from ⟨s4, L4, by rw [← part_next]; exact ⟨_, hd4⟩, hTT.no ht4 HLL.out, hrs4, (ht4.old _ hlt0).trans hLB⟩)
          have fr3 : w3.frozen? ⟨b, 0 + 10, none⟩ = false := FRZ.out w3 (HB2.out.2) hg3
          have hx3 : ∃ u, w3.cell? ⟨b, 0 + 10, none⟩ = some u := HX9.out w3 (HB2.out.2) hg3
          obtain ⟨u9, hx3⟩ := hx3
          clear hd hpv hTT hLB hnj hj3 hpr2 hpbn hpl hr3 hg3 hf3 hne hrs3 hd4 ht4 hbw hrs4 hlt0
          refine hK2.out _ _ S3.out (fun hHeld2 => ?_)
          clear hK2 K2 hHeld
          have hHeld := hHeld2
          clear hHeld2
          try simp only [Act.put, List.getElem_toArray, List.getElem_cons_zero, List.getElem_cons_succ, List.setIfInBounds_toArray, List.set_cons_zero, List.set_cons_succ]
          refine tkH 9 ?_
          refine tkH 10 ?_
          refine wpAnyH_ready (rs := [11]) (by kernel_rfl) (by simp) ?_
          refine AllReadyH.cons rfl (fun K2 hK2 => ?_) AllReadyH.nil
          go_simp
          refine hK2.out _ _ S4.out (fun hHeld2 => ?_)
          clear hK2 K2 hHeld
          have hHeld := hHeld2
          clear hHeld2
          try simp only [Act.put, List.getElem_toArray, List.getElem_cons_zero, List.getElem_cons_succ, List.setIfInBounds_toArray, List.set_cons_zero, List.set_cons_succ]
          refine wpAnyH_done (by kernel_rfl) ?_ _
          clear hHeld
          go_wp2
          go_roundw
          case rel => exact ⟨j + 1, by have := HJ.out; omega, by first | rfl | rw [HJW.out], HMID⟩
          case measure => (try rw [HJW.out]); have := HJ.out; simp [intOf]; omega
    · have e : j = n := by omega
      subst e
      have j1 : ¬ ((j : Int) < (j : Int)) := by omega
      obtain ⟨s, L3, h3, ht3, hRG, hLB⟩ := hmid.out
      have HFIN := Lib.hid (show EeNew w L K ⟨(j : Int), buf, win, chk, most, first, sched⟩ side (.returned (.tuple #[.pointer (some ⟨b, 0, none⟩), .int .i64 0])) wr from ⟨b, s, L3, rfl, HSZ.out, by rw [← part_all (n := j) (by simp)]; exact h3, ht3⟩)
      clear hmid hj hjn h3 ht3 hRG hLB
      go_wp2
      go_ret2
      exact HFIN.out
end Go.Proofs.YtpjlnpnadkbakaaGreat
