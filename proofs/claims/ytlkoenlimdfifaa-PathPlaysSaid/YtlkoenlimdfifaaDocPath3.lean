/-
  What Acked and Late of the document's own path do: contracts over the program.
-/
import Derived.Test.YtlkoenlimdfifaaDocPath2
namespace Go.Proofs.Ytlkoenlimdfifaa
open Go.RowKit

section
variable {w : World} {B p pg pw : Nat} {v : Value} {P : Pa}
set_option maxHeartbeats 1000000 in
/-- Acked, of a number that isn't out. -/
theorem dqacked_no (h : DqAt w B p pg pw v P) (x now : Int) (hno : NoneQ P.fl x) (hm : P.fl.length ≤ 1099511627775) :
    Calls Try.prog 33 #[.pointer (some ⟨p, 0, none⟩), .int .i64 x, .int .i64 now] w fun e w' => e = .returned (.bool false) ∧ Below w.heap.size w w' := by
  have HT := Lib.hid (ffltake_no h.fl x hno hm)
  clear h
  go_enter Try.func33, Try.ntmps33
  go_wp2_with fail
  refine HT.out.mono ?_
  rintro e w1 ⟨rfl, hb⟩
  have HB := Lib.hid (hb.alloc hb.size (.cells #[.int .i64 0, .int .i64 0, .int .i64 0, .int .i64 0] tOutR))
  clear hb HT
  go_wp2
  go_ret
  exact ⟨rfl, HB.out⟩

set_option maxHeartbeats 2000000 in
/-- Acked, of one that is out. -/
theorem dqacked_yes (h : DqAt w B p pg pw v P) (hok : P.ok) (x now : Int) (i0 : Nat) (hi0 : FirstQ P.fl x i0) (h1 : -1099511627776 ≤ now ∧ now ≤ 1099511627776) (h2 : -1099511627776 ≤ (P.fl.getD i0 qz).a ∧ (P.fl.getD i0 qz).a ≤ 1099511627776) :
    Calls Try.prog 33 #[.pointer (some ⟨p, 0, none⟩), .int .i64 x, .int .i64 now] w fun e w' => e = .returned (.bool true) ∧ ∃ v', DqAt w' B p pg pw v' (P.acked i0 now) ∧ SC w w' (Dqt p pg pw v) (Dqt p pg pw v') := by
  obtain ⟨q, hq⟩ : ∃ q, P.fl.getD i0 qz = q := ⟨_, rfl⟩
  have HT := Lib.hid (ffltake_yes h.fl x i0 hi0 q hq (by have := hok.n; omega))
  have HE := Lib.hid (show (((((P.setFl (goneQ P.fl i0)).setG (P.g.sample (now - q.a))).setW P.wn.ack).setBe false) : Pa) = P.acked i0 now by unfold Pa.acked; rw [hq]; rfl)
  rw [hq] at h2
  have HW := Lib.hid (show IntKind.i64.wrap (now - q.a) = now - q.a from IntWalk.i64_in _ (by constructor <;> omega))
  have H := Lib.hid h
  have HOK := Lib.hid hok
  clear h hq h1 h2 hi0 hok
  obtain ⟨qn, qf, qt, qa⟩ := q
  simp only at HT HE HW
  go_enter Try.func33, Try.ntmps33
  go_wp2_with fail
  refine HT.out.mono ?_
  rintro e w1 ⟨rfl, v1, hf1, hs1⟩
  obtain ⟨hd1, hsc1⟩ := H.out.turnF hf1 hs1
  have hb2 := (Below.refl w1.heap.size w1).alloc (Nat.le_refl _) (.cells #[.int .i64 qn, .int .i64 qf, .int .i64 qt, .int .i64 qa] tOutR)
  have hd2 := hd1.later hb2
  have HS2 := Lib.hid (hsc1.trans (SC.of_below hb2))
  have hx2 := row4_cells (row4_new w1 tOutR ⟨qn, qf, qt, qa⟩)
  have HPG := Lib.hid (World.rowIs.lt hd1.g)
  have HX2 := Lib.hid hx2
  have HD2 := Lib.hid hd2
  clear HT hf1 hs1 hd1 hsc1 hb2 hd2 hx2 H
  go_wp2_with fail
  obtain ⟨w2, hw2⟩ : ∃ w2, w1.alloc (.cells #[.int .i64 qn, .int .i64 qf, .int .i64 qt, .int .i64 qa] tOutR) = w2 := ⟨_, rfl⟩
  obtain ⟨b2, hb2⟩ : ∃ b, w1.heap.size = b := ⟨_, rfl⟩
  rw [hw2] at HD2 HS2 HX2
  rw [hb2] at HX2 HPG
  have HG := Lib.hid (dgsample_any (now - qa) (HD2.out.drewN 1).g HOK.out.g)
  have S2 := Lib.hid (show w2.drew.cell? ⟨p, 4, none⟩ = some (.pointer (some ⟨pg, 0, none⟩)) ∧ w2.drew.cell? ⟨b2, 3, none⟩ = some (.int .i64 qa) from ⟨(HD2.out.drewN 1).c4, HX2.out.2.2.2⟩)
  refine wp_region_held_drew (S := fun wi => wi.cell? ⟨p, 4, none⟩ = some (.pointer (some ⟨pg, 0, none⟩)) ∧ wi.cell? ⟨b2, 3, none⟩ = some (.int .i64 qa)) (by kernel_rfl) (by rw [hw2]; exact S2.out) ?_
  intro hHeld
  rw [hw2, hb2] at *
  clear hw2 hb2
  refine wpAnyH_take (i := 0) (v := ?_) rfl (by kernel_rfl) (by kernel_rfl) (by kernel_rfl) (fun _ _ _ h => h) (Or.inl ⟨by rfl, ?_⟩) (by assumption) ?_
  rotate_left
  · intro w hSw
    (try dsimp only at hSw)
    go_simp
    try (with_reducible rfl)
  try simp only [Act.put, List.getElem_toArray, List.getElem_cons_zero, List.setIfInBounds_toArray, List.set_cons_zero, List.set_cons_succ]
  refine wpAnyH_take (i := 1) (v := ?_) rfl (by kernel_rfl) (by kernel_rfl) (by kernel_rfl) (fun _ _ _ h => h) (Or.inl ⟨by rfl, ?_⟩) (by assumption) ?_
  rotate_left
  · intro w hSw
    (try dsimp only at hSw)
    go_simp
    try (with_reducible rfl)
  try simp only [Act.put, List.getElem_toArray, List.getElem_cons_zero, List.getElem_cons_succ, List.setIfInBounds_toArray, List.set_cons_zero, List.set_cons_succ]
  refine wpAnyH_take (i := 2) (v := ?_) rfl (by kernel_rfl) (by kernel_rfl) (by kernel_rfl) (fun _ _ _ h => h) (Or.inl ⟨by rfl, ?_⟩) (by assumption) ?_
  rotate_left
  · intro w hSw
    (try dsimp only at hSw)
    go_simp
    try (with_reducible rfl)
  try simp only [Act.put, List.getElem_toArray, List.getElem_cons_zero, List.getElem_cons_succ, List.setIfInBounds_toArray, List.set_cons_zero, List.set_cons_succ]
  refine wpAnyH_take (i := 3) (v := ?_) rfl (by kernel_rfl) (by kernel_rfl) (by kernel_rfl) (fun _ _ _ h => h) (Or.inl ⟨by rfl, ?_⟩) (by assumption) ?_
  rotate_left
  · intro w hSw
    (try dsimp only at hSw)
    go_simp
    try (with_reducible rfl)
  try simp only [Act.put, List.getElem_toArray, List.getElem_cons_zero, List.getElem_cons_succ, List.setIfInBounds_toArray, List.set_cons_zero, List.set_cons_succ]
  refine wpAnyH_take (i := 4) (v := ?_) rfl (by kernel_rfl) (by kernel_rfl) (by kernel_rfl) (fun _ _ _ h => h) (Or.inl ⟨by rfl, ?_⟩) (by assumption) ?_
  rotate_left
  · intro w hSw
    (try dsimp only at hSw)
    go_simp
    try (with_reducible rfl)
  try simp only [Act.put, List.getElem_toArray, List.getElem_cons_zero, List.getElem_cons_succ, List.setIfInBounds_toArray, List.set_cons_zero, List.set_cons_succ]
  refine wpAnyH_take (i := 5) (v := ?_) rfl (by kernel_rfl) (by kernel_rfl) (by kernel_rfl) (fun _ _ _ h => h) (Or.inl ⟨by rfl, ?_⟩) (by assumption) ?_
  rotate_left
  · intro w hSw
    (try dsimp only at hSw)
    go_simp
    try (with_reducible rfl)
  try simp only [Act.put, List.getElem_toArray, List.getElem_cons_zero, List.getElem_cons_succ, List.setIfInBounds_toArray, List.set_cons_zero, List.set_cons_succ]
  refine wpAnyH_take (i := 6) (v := ?_) rfl (by kernel_rfl) (by kernel_rfl) (by kernel_rfl) (fun _ _ _ h => h) (Or.inl ⟨by rfl, ?_⟩) (by assumption) ?_
  rotate_left
  · intro w hSw
    (try dsimp only at hSw)
    go_simp
    try (with_reducible rfl)
  try simp only [Act.put, List.getElem_toArray, List.getElem_cons_zero, List.getElem_cons_succ, List.setIfInBounds_toArray, List.set_cons_zero, List.set_cons_succ]
  refine wpAnyH_take (i := 7) (v := ?_) rfl (by kernel_rfl) (by kernel_rfl) (by kernel_rfl) (fun _ _ _ h => h) (Or.inl ⟨by rfl, ?_⟩) (by assumption) ?_
  rotate_left
  · intro w hSw
    (try dsimp only at hSw)
    go_simp
    try (with_reducible rfl)
  try simp only [Act.put, List.getElem_toArray, List.getElem_cons_zero, List.getElem_cons_succ, List.setIfInBounds_toArray, List.set_cons_zero, List.set_cons_succ]
  refine wpAnyH_ready (rs := [8]) (by kernel_rfl) (by simp) ?_
  refine AllReadyH.cons rfl (fun K hK => ?_) AllReadyH.nil
  go_simp
  rw [HW.out]
  refine HG.out.mono ?_
  rintro e w3 ⟨rfl, hg, hgr⟩
  obtain ⟨hd3, hs3⟩ := (HD2.out.drewN 1).turnG hg hgr
  have hc3 := (HX2.out.of_block (w' := w3) (hgr.block b2 HX2.out.lt (fun e => by have := HPG.out; have := Option.some.inj e; omega))).2.2.2
  have S3 := Lib.hid (show w3.cell? ⟨p, 4, none⟩ = some (.pointer (some ⟨pg, 0, none⟩)) ∧ w3.cell? ⟨b2, 3, none⟩ = some (.int .i64 qa) from ⟨hd3.c4, hc3⟩)
  refine hK.out _ _ S3.out (fun hHeld2 => ?_)
  clear hK K hHeld
  have hHeld := hHeld2
  clear hHeld2
  try simp only [Act.put, List.getElem_toArray, List.getElem_cons_zero, List.getElem_cons_succ, List.setIfInBounds_toArray, List.set_cons_zero, List.set_cons_succ]
  refine wpAnyH_done (by kernel_rfl) ?_ _
  have HD3 := Lib.hid hd3
  have HS3 := Lib.hid (HS2.out.trans ((SC.of_below (Below.mono ⟨rfl, rfl, rfl, Nat.le_refl _, fun _ _ => rfl⟩ (Nat.le_refl _)) : SC w2 (w2.drewN 1) _ _).trans hs3))
  have c5 := hd3.c5
  have HA := Lib.hid (rack_any hd3.wn HOK.out.w)
  clear hHeld S3 S2 hd3 hs3 hg hgr hc3 HG HX2 HPG HD2 HS2
  go_wp2_with fail
  refine HA.out.mono ?_
  rintro e w4 ⟨rfl, hw, hgr⟩
  obtain ⟨hd4, hs4⟩ := HD3.out.turnW hw hgr
  have c2 := hd4.c2
  have f2 := hd4.fr (0 + 2)
  have hp := hd4.poke (P' := P.acked i0 now) (0 + 2) (.bool false) (by omega) (fun j hj => by
    have : j = 0 ∨ j = 1 ∨ j = 2 ∨ j = 3 ∨ j = 4 ∨ j = 5 := by omega
    rw [← HE.out]
    rcases this with rfl | rfl | rfl | rfl | rfl | rfl <;> rfl) (by rw [← HE.out]; rfl) (by rw [← HE.out]; rfl) (by rw [← HE.out]; rfl)
  have HFIN := Lib.hid (And.intro hp.1 (HS3.out.trans (hs4.trans hp.2)))
  clear hw hgr hd4 hs4 hp HA c5 HD3 HS3 HE HOK
  go_wp2
  go_ret
  exact ⟨rfl, _, HFIN.out.1, HFIN.out.2⟩

set_option maxHeartbeats 2000000 in
theorem dqlate_any (h : DqAt w B p pg pw v P) (hok : P.ok) (now : Int) (h1 : -1099511627776 ≤ now ∧ now ≤ 1099511627776) :
    Calls Try.prog 34 #[.pointer (some ⟨p, 0, none⟩), .int .i64 now] w fun e w' => ∃ A' m c', e = .returned (.slice A' m c') ∧ OwnQ tOutR w' w.heap.size (.slice A' m c') (P.lates now) ∧ ∃ v', DqAt w' B p pg pw v' (P.lateN now) ∧ SC w w' (Dqt p pg pw v) (Dqt p pg pw v') := by
  have hwi := Gs.wait_in hok.g
  have HT := Lib.hid (fun (k : Nat) => ffllate_any ((h.drewN k).fl) now P.g.wait (now - P.g.wait) h1 (by omega) rfl (by have := hok.n; omega))
  have HG := Lib.hid (dgwait_any (h.drewN 1).g hok.g)
  have H := Lib.hid h
  have HOK := Lib.hid hok
  have S0 := Lib.hid (show ∀ k, (w.drewN k).cell? ⟨p, 4, none⟩ = some (.pointer (some ⟨pg, 0, none⟩)) from fun k => (h.drewN k).c4)
  clear h hok hwi h1
  go_enter Try.func34, Try.ntmps34
  go_wp2_with fail
  refine wp_region_held_drew (S := fun wi => wi.cell? ⟨p, 4, none⟩ = some (.pointer (some ⟨pg, 0, none⟩))) (by kernel_rfl) (S0.out 1) ?_
  intro hHeld
  refine wpAnyH_take (i := 0) (v := ?_) rfl (by kernel_rfl) (by kernel_rfl) (by kernel_rfl) (fun _ _ _ h => h) (Or.inl ⟨by rfl, ?_⟩) (by assumption) ?_
  rotate_left
  · intro w hSw
    (try dsimp only at hSw)
    go_simp
    try (with_reducible rfl)
  try simp only [Act.put, List.getElem_toArray, List.getElem_cons_zero, List.setIfInBounds_toArray, List.set_cons_zero, List.set_cons_succ]
  refine wpAnyH_take (i := 1) (v := ?_) rfl (by kernel_rfl) (by kernel_rfl) (by kernel_rfl) (fun _ _ _ h => h) (Or.inl ⟨by rfl, ?_⟩) (by assumption) ?_
  rotate_left
  · intro w hSw
    (try dsimp only at hSw)
    go_simp
    try (with_reducible rfl)
  try simp only [Act.put, List.getElem_toArray, List.getElem_cons_zero, List.getElem_cons_succ, List.setIfInBounds_toArray, List.set_cons_zero, List.set_cons_succ]
  refine wpAnyH_take (i := 2) (v := ?_) rfl (by kernel_rfl) (by kernel_rfl) (by kernel_rfl) (fun _ _ _ h => h) (Or.inl ⟨by rfl, ?_⟩) (by assumption) ?_
  rotate_left
  · intro w hSw
    (try dsimp only at hSw)
    go_simp
    try (with_reducible rfl)
  try simp only [Act.put, List.getElem_toArray, List.getElem_cons_zero, List.getElem_cons_succ, List.setIfInBounds_toArray, List.set_cons_zero, List.set_cons_succ]
  refine wpAnyH_take (i := 3) (v := ?_) rfl (by kernel_rfl) (by kernel_rfl) (by kernel_rfl) (fun _ _ _ h => h) (Or.inl ⟨by rfl, ?_⟩) (by assumption) ?_
  rotate_left
  · intro w hSw
    (try dsimp only at hSw)
    go_simp
    try (with_reducible rfl)
  try simp only [Act.put, List.getElem_toArray, List.getElem_cons_zero, List.getElem_cons_succ, List.setIfInBounds_toArray, List.set_cons_zero, List.set_cons_succ]
  refine wpAnyH_take (i := 4) (v := ?_) rfl (by kernel_rfl) (by kernel_rfl) (by kernel_rfl) (fun _ _ _ h => h) (Or.inl ⟨by rfl, ?_⟩) (by assumption) ?_
  rotate_left
  · intro w hSw
    (try dsimp only at hSw)
    go_simp
    try (with_reducible rfl)
  try simp only [Act.put, List.getElem_toArray, List.getElem_cons_zero, List.getElem_cons_succ, List.setIfInBounds_toArray, List.set_cons_zero, List.set_cons_succ]
  refine wpAnyH_take (i := 5) (v := ?_) rfl (by kernel_rfl) (by kernel_rfl) (by kernel_rfl) (fun _ _ _ h => h) (Or.inl ⟨by rfl, ?_⟩) (by assumption) ?_
  rotate_left
  · intro w hSw
    (try dsimp only at hSw)
    go_simp
    try (with_reducible rfl)
  try simp only [Act.put, List.getElem_toArray, List.getElem_cons_zero, List.getElem_cons_succ, List.setIfInBounds_toArray, List.set_cons_zero, List.set_cons_succ]
  refine wpAnyH_take (i := 6) (v := ?_) rfl (by kernel_rfl) (by kernel_rfl) (by kernel_rfl) (fun _ _ _ h => h) (Or.inl ⟨by rfl, ?_⟩) (by assumption) ?_
  rotate_left
  · intro w hSw
    (try dsimp only at hSw)
    go_simp
    try (with_reducible rfl)
  try simp only [Act.put, List.getElem_toArray, List.getElem_cons_zero, List.getElem_cons_succ, List.setIfInBounds_toArray, List.set_cons_zero, List.set_cons_succ]
  refine wpAnyH_take (i := 7) (v := ?_) rfl (by kernel_rfl) (by kernel_rfl) (by kernel_rfl) (fun _ _ _ h => h) (Or.inl ⟨by rfl, ?_⟩) (by assumption) ?_
  rotate_left
  · intro w hSw
    (try dsimp only at hSw)
    go_simp
    try (with_reducible rfl)
  try simp only [Act.put, List.getElem_toArray, List.getElem_cons_zero, List.getElem_cons_succ, List.setIfInBounds_toArray, List.set_cons_zero, List.set_cons_succ]
  refine wpAnyH_ready (rs := [8]) (by kernel_rfl) (by simp) ?_
  refine AllReadyH.cons rfl (fun K hK => ?_) AllReadyH.nil
  go_simp
  refine HG.out.mono ?_
  rintro e w1 ⟨rfl, k, rfl⟩
  rw [World.drewN_drewN]
  refine hK.out _ _ (S0.out _) (fun hHeld2 => ?_)
  clear hK K hHeld
  have hHeld := hHeld2
  clear hHeld2
  try simp only [Act.put, List.getElem_toArray, List.getElem_cons_zero, List.getElem_cons_succ, List.setIfInBounds_toArray, List.set_cons_zero, List.set_cons_succ]
  refine wpAnyH_ready (rs := [9]) (by kernel_rfl) (by simp) ?_
  refine AllReadyH.cons rfl (fun K hK => ?_) AllReadyH.nil
  go_simp
  refine (HT.out _).mono ?_
  rintro e w2 ⟨A', m, c', rfl, ho, v2, hf, hs⟩
  obtain ⟨hd2, hs2⟩ := (H.out.drewN (1 + k)).turnF hf hs
  have hm : (P.lates now).length = m := ho.len
  have ho0 : OwnQ tOutR w2 w.heap.size (.slice A' m c') (P.lates now) := ho
  have HS2 := Lib.hid ((SC.of_below (Below.mono ⟨rfl, rfl, rfl, Nat.le_refl _, fun _ _ => rfl⟩ (Nat.le_refl _)) : SC w (w.drewN (1 + k)) _ _).trans hs2)
  have S2 := Lib.hid hd2.c4
  have HD2 := Lib.hid hd2
  have HO := Lib.hid ho0
  have HM := Lib.hid hm
  clear hf hs hd2 hs2 hm ho ho0
  refine hK.out _ _ S2.out (fun hHeld2 => ?_)
  clear hK K hHeld
  have hHeld := hHeld2
  clear hHeld2
  try simp only [Act.put, List.getElem_toArray, List.getElem_cons_zero, List.getElem_cons_succ, List.setIfInBounds_toArray, List.set_cons_zero, List.set_cons_succ]
  refine wpAnyH_take (i := 10) (v := ?_) rfl (by kernel_rfl) (by kernel_rfl) (by kernel_rfl) (fun _ _ _ h => h) (Or.inl ⟨by rfl, ?_⟩) (by assumption) ?_
  rotate_left
  · intro w hSw
    (try dsimp only at hSw)
    go_simp
    try (with_reducible rfl)
  try simp only [Act.put, List.getElem_toArray, List.getElem_cons_zero, List.getElem_cons_succ, List.setIfInBounds_toArray, List.set_cons_zero, List.set_cons_succ]
  refine wpAnyH_done (by kernel_rfl) ?_ _
  clear hHeld S2 S0 HT HG
  have c4 := HD2.out.c4
  by_cases hm0 : m = 0
  · have he := Pa.lateN_no (P := P) (now := now) (HM.out.trans hm0)
    have HFIN := Lib.hid (show OwnQ tOutR w2 w.heap.size (.slice A' m c') (P.lates now) ∧ DqAt w2 B p pg pw v2 (P.lateN now) from ⟨HO.out, by rw [← he]; exact HD2.out⟩)
    have i1 : ¬ ((m : Int) > 0) := by omega
    clear he hm0 HO HD2 HM
    go_wp2
    go_ret
    exact ⟨_, _, _, rfl, HFIN.out.1, _, HFIN.out.2, HS2.out⟩
  · have he := Pa.lateN_yes (P := P) (now := now) (fun e => hm0 (HM.out.symm.trans e))
    have i1 : (m : Int) > 0 := by omega
    have HE := Lib.hid he
    have HA := Lib.hid (dglate_any HD2.out.g HOK.out.g)
    clear he hm0
    go_wp2_with fail
    refine HA.out.mono ?_
    rintro e w3 ⟨rfl, hg, hgr⟩
    obtain ⟨hd3, hs3⟩ := HD2.out.turnG hg hgr
    have HO3 := Lib.hid (show OwnQ tOutR w3 w.heap.size (.slice A' m c') (P.lates now) from HO.out.trn (Trn.of_grown hgr) (fun g hg e => HO.out.not_row HD2.out.g (by decide) (hg.trans e.symm)))
    have c5 := hd3.c5
    have HW := Lib.hid (rloss_any hd3.wn HOK.out.w)
    have HD3 := Lib.hid hd3
    have HS3 := Lib.hid (HS2.out.trans hs3)
    clear hg hgr hd3 hs3 HA HO HD2 HS2 c4
    go_wp2_with fail
    refine HW.out.mono ?_
    rintro e w4 ⟨rfl, hw, hgr⟩
    obtain ⟨hd4, hs4⟩ := HD3.out.turnW hw hgr
    have HO4 := Lib.hid (show OwnQ tOutR w4 w.heap.size (.slice A' m c') (P.lates now) from HO3.out.trn (Trn.of_grown hgr) (fun g hg e => HO3.out.not_row HD3.out.wn (by decide) (hg.trans e.symm)))
    have c2 := hd4.c2
    have f2 := hd4.fr (0 + 2)
    have hp := hd4.poke (P' := P.lateN now) (0 + 2) (.bool true) (by omega) (fun j hj => by
      have : j = 0 ∨ j = 1 ∨ j = 2 ∨ j = 3 ∨ j = 4 ∨ j = 5 := by omega
      rw [← HE.out]
      rcases this with rfl | rfl | rfl | rfl | rfl | rfl <;> rfl) (by rw [← HE.out]; rfl) (by rw [← HE.out]; rfl) (by rw [← HE.out]; rfl)
    have HO5 := Lib.hid (HO4.out.kept (setCell_one w4 p (0 + 2) (.bool true)) (.inr (HO4.out.not_row hd4.fl.row (by decide))))
    have HFIN := Lib.hid (And.intro hp.1 (HS3.out.trans (hs4.trans hp.2)))
    clear hw hgr hd4 hs4 hp HW c5 HD3 HS3 HE HOK HO3 HO4
    go_wp2
    go_ret
    exact ⟨_, _, _, rfl, HO5.out, _, HFIN.out.1, HFIN.out.2⟩
end
end Go.Proofs.Ytlkoenlimdfifaa
