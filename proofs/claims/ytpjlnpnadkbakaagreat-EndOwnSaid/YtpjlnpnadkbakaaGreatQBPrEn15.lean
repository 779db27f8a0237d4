/-
  PrEn15 · PkRow.
-/
import Derived.Test.YtpjlnpnadkbakaaGreatQBPrEn9
import Derived.Test.YtpjlnpnadkbakaaGreatQBRowN
import Derived.Test.YtpjlnpnadkbakaaGreatQBMem
namespace Go.Proofs.YtpjlnpnadkbakaaGreat
set_option maxRecDepth 10000
open Go.RowKit
theorem eenow_any {w : World} {L : Lab} {K b : Nat} {s : EeS} {E : En} (h : EE w L K b s E) : Calls Tryz.prog 59 #[.pointer (some ⟨b, 0, none⟩)] w fun e w' => e = .returned (.int .i64 E.now) ∧ w = w' := by
  obtain ⟨q, h⟩ := h
  have c8 : w.cell? ⟨b, 0 + 8, none⟩ = some (.int .i64 E.now) := h.cell 8 (by omega)
  clear h
  go_enter Tryz.func59, Tryz.ntmps59
  go_wp2
  go_ret
  exact ⟨rfl, rfl⟩
theorem eewritten_any {w : World} {L : Lab} {K b : Nat} {s : EeS} {E : En} (h : EE w L K b s E) : Calls Tryz.prog 62 #[.pointer (some ⟨b, 0, none⟩)] w fun e w' => ∃ A c, e = .returned (.slice A E.o.xs.length c) ∧ Own .u8 5 w' w.heap.size (.slice A E.o.xs.length c) E.o.xs ∧ Below w.heap.size w w' := by
  obtain ⟨q, h⟩ := h
  have c13 : w.cell? ⟨b, 0 + 13, none⟩ = some (.pointer (some ⟨s.ob, 0, none⟩)) := h.cell 13 (by omega)
  have HA := Lib.hid (show Calls Tryz.prog 135 #[.pointer (some ⟨s.ob, 0, none⟩)] w fun e w' => ∃ A' c', e = .returned (.slice A' E.o.xs.length c') ∧ Own .u8 5 w' w.heap.size (.slice A' E.o.xs.length c') E.o.xs ∧ Below w.heap.size w w' from all_any h.p.out)
  clear h
  go_enter Tryz.func62, Tryz.ntmps62
  go_wp2_with fail
  refine HA.out.mono ?_
  rintro e w1 ⟨A, c, rfl, h1, h2⟩
  go_wp2
  go_ret
  exact ⟨_, _, rfl, h1, h2⟩
def EeMt (w : World) (L : Lab) (K b : Nat) (s : EeS) (E : En) (e : Ending) (w' : World) : Prop :=
  ∃ g, w.heap.size ≤ g ∧ e = .returned (.slice (some ⟨g, 0, none⟩) 8 8) ∧ Rd .i64 w' (some ⟨g, 0, none⟩) E.meter ∧ ∀ j, EE w' (relab L w.heap.size j) K b s E ∧ Tn w w' L (relab L w.heap.size j) (Es K)
theorem eemeter_any {w : World} {L : Lab} {K b : Nat} {s : EeS} {E : En} (h : EE w L K b s E) : Calls Tryz.prog 36 #[.pointer (some ⟨b, 0, none⟩)] w (EeMt w L K b s E) := by
  have c18 := h.c18
  obtain ⟨q, h⟩ := h
  have HA := Lib.hid (mall_any s.mb (mets E.m) w h.p.met)
  have H := Lib.hid h
  clear h
  go_enter Tryz.func36, Tryz.ntmps36
  go_wp2_with fail
  refine HA.out.mono ?_
  rintro e w1 ⟨g, hg, rfl, hr, hm, hgr⟩
  have h := H.out
  have hrd : Rd .i64 w1 (some ⟨g, 0, none⟩) E.meter := by
    refine .inr ⟨g, 0, rfl, fun j hj => ?_⟩
    have hj8 : j < 8 := by simpa [En.meter] using hj
    rw [Nat.zero_add, World.rowIs.cell (i := j) hr hj8]
    simp only [allF, if_pos hj8]
    rfl
  have HFIN := Lib.hid (show EeMt w L K b s E (.returned (.slice (some ⟨g, 0, none⟩) 8 8)) w1 from ⟨g, hg, rfl, hrd, fun j => by
    have ht : Tn w w1 L (relab L w.heap.size j) (fun x => x = K + 11) := ⟨(Trn.of_grown hgr).mono (fun k _ hk => by rw [← Option.some.inj hk]; exact h.p.metl), fun k hk => relab_old hk⟩
    have h3 := h.p.n3
    have r := h.p.rest ht
    refine ⟨⟨q, h.turn ht (by omega) ⟨r.pvr (by omega), r.pvl, h.p.pbn, fun j hj => r.pth j hj (by have : j < E.ps.length := hj; have : E.ps.length ≤ 3 := h3; omega), r.ptl, r.dvr (by omega), r.dvl, r.out (by omega), r.outl, r.pln (by omega), r.plnl, r.inb (by omega), r.inl, r.sch (by omega), r.schl, r.evs (by omega) (by omega), hm, r.metl, h3⟩ rfl ⟨rfl, rfl, rfl⟩⟩, ht.mono (fun x hx => by subst hx; exact ⟨by omega, by omega⟩)⟩⟩)
  clear h hr hm hgr hrd HA H c18
  go_wp2
  go_ret
  exact HFIN.out
set_option maxHeartbeats 2000000 in
theorem eedone_any {w : World} {L : Lab} {K b : Nat} {s : EeS} {E : En} (h : EE w L K b s E) : Calls Tryz.prog 24 #[.pointer (some ⟨b, 0, none⟩)] w fun e w' => e = .returned (.bool E.done) ∧ ∃ k, w' = w.drewN k := by
  obtain ⟨q, h⟩ := h
  have S0 := Lib.hid (show w.drew.cell? ⟨b, 0 + 13, none⟩ = some (.pointer (some ⟨s.ob, 0, none⟩)) ∧ w.drew.cell? ⟨b, 0 + 15, none⟩ = some (.pointer (some ⟨s.ib, 0, none⟩)) from ⟨(h.drewN 1).cell 13 (by omega), (h.drewN 1).cell 15 (by omega)⟩)
  obtain ⟨cl, hcl⟩ : ∃ x, E.o.cl = x := ⟨_, rfl⟩
  obtain ⟨ak, hak⟩ : ∃ x, E.o.ak = x := ⟨_, rfl⟩
  obtain ⟨pl, hpl⟩ : ∃ x, E.o.places = x := ⟨_, rfl⟩
  obtain ⟨dn, hdn⟩ : ∃ x, E.i.done = x := ⟨_, rfl⟩
  have HE := Lib.hid (show E.done = (cl && decide (ak = pl) && dn) by unfold En.done; rw [hcl, hak, hpl, hdn])
  have HC := Lib.hid (show ∀ k, Calls Tryz.prog 77 #[.pointer (some ⟨s.ob, 0, none⟩)] (w.drewN k) fun e w' => e = .returned (.bool cl) ∧ w.drewN k = w' from fun k => by rw [← hcl]; exact closed_any (h.drewN k).p.out)
  have HA := Lib.hid (show ∀ k, Calls Tryz.prog 78 #[.pointer (some ⟨s.ob, 0, none⟩)] (w.drewN k) fun e w' => e = .returned (.int .i64 ak) ∧ w.drewN k = w' from fun k => by rw [← hak]; exact acked_any (h.drewN k).p.out)
  have HP := Lib.hid (show ∀ k, Calls Tryz.prog 79 #[.pointer (some ⟨s.ob, 0, none⟩)] (w.drewN k) fun e w' => e = .returned (.int .i64 pl) ∧ w.drewN k = w' from fun k => by rw [← hpl]; exact places_any (h.drewN k).p.out)
  have HD := Lib.hid (show ∀ k, Calls Tryz.prog 80 #[.pointer (some ⟨s.ib, 0, none⟩)] (w.drewN k) fun e w' => e = .returned (.bool dn) ∧ ∃ k', w' = w.drewN k' from fun k => by
    obtain ⟨xs, ps, hin⟩ := (h.drewN k).p.inb
    rw [← hdn]
    refine (ibdone_any hin 0).mono ?_
    rintro e w' ⟨rfl, k', rfl⟩
    exact ⟨rfl, k + k', by rw [World.drewN_zero, World.drewN_drewN]⟩)
  clear h hcl hak hpl hdn
  go_enter Tryz.func24, Tryz.ntmps24
  go_wp2_with fail
  refine wp_region_held_drew (S := fun wi => wi.cell? ⟨b, 0 + 13, none⟩ = some (.pointer (some ⟨s.ob, 0, none⟩)) ∧ wi.cell? ⟨b, 0 + 15, none⟩ = some (.pointer (some ⟨s.ib, 0, none⟩))) (by kernel_rfl) S0.out ?_
  intro hHeld
  refine tkH 0 ?_
  refine tkH 1 ?_
  refine tkH 2 ?_
  refine tkH 3 ?_
  refine wpAnyH_ready (rs := [4]) (by kernel_rfl) (by simp) ?_
  refine AllReadyH.cons rfl (fun K2 hK2 => ?_) AllReadyH.nil
  go_simp
  refine (HC.out 1).mono ?_
  rintro e w1 ⟨rfl, rfl⟩
  try go_wp2_with fail
  refine hK2.out _ _ S0.out (fun hHeld2 => ?_)
  clear hK2 K2 hHeld
  have hHeld := hHeld2
  clear hHeld2
  try simp only [Act.put, List.getElem_toArray, List.getElem_cons_zero, List.getElem_cons_succ, List.setIfInBounds_toArray, List.set_cons_zero, List.set_cons_succ]
  cases cl
  · refine tkH 5 ?_
    refine wpAnyH_take (i := 6) (v := undef) rfl (by kernel_rfl) (by kernel_rfl) (by kernel_rfl) (fun _ _ _ h => h) (Or.inr ⟨by rfl, rfl⟩) (by assumption) ?_
    try simp only [Act.put, List.getElem_toArray, List.getElem_cons_zero, List.getElem_cons_succ, List.setIfInBounds_toArray, List.set_cons_zero, List.set_cons_succ]
    refine wpAnyH_take (i := 7) (v := undef) rfl (by kernel_rfl) (by kernel_rfl) (by kernel_rfl) (fun _ _ _ h => h) (Or.inr ⟨by rfl, rfl⟩) (by assumption) ?_
    try simp only [Act.put, List.getElem_toArray, List.getElem_cons_zero, List.getElem_cons_succ, List.setIfInBounds_toArray, List.set_cons_zero, List.set_cons_succ]
    refine wpAnyH_take (i := 8) (v := undef) rfl (by kernel_rfl) (by kernel_rfl) (by kernel_rfl) (fun _ _ _ h => h) (Or.inr ⟨by rfl, rfl⟩) (by assumption) ?_
    try simp only [Act.put, List.getElem_toArray, List.getElem_cons_zero, List.getElem_cons_succ, List.setIfInBounds_toArray, List.set_cons_zero, List.set_cons_succ]
    refine wpAnyH_take (i := 9) (v := undef) rfl (by kernel_rfl) (by kernel_rfl) (by kernel_rfl) (fun _ _ _ h => h) (Or.inr ⟨by rfl, rfl⟩) (by assumption) ?_
    try simp only [Act.put, List.getElem_toArray, List.getElem_cons_zero, List.getElem_cons_succ, List.setIfInBounds_toArray, List.set_cons_zero, List.set_cons_succ]
    refine wpAnyH_take (i := 10) (v := undef) rfl (by kernel_rfl) (by kernel_rfl) (by kernel_rfl) (fun _ _ _ h => h) (Or.inr ⟨by rfl, rfl⟩) (by assumption) ?_
    try simp only [Act.put, List.getElem_toArray, List.getElem_cons_zero, List.getElem_cons_succ, List.setIfInBounds_toArray, List.set_cons_zero, List.set_cons_succ]
    refine wpAnyH_take (i := 11) (v := undef) rfl (by kernel_rfl) (by kernel_rfl) (by kernel_rfl) (fun _ _ _ h => h) (Or.inr ⟨by rfl, rfl⟩) (by assumption) ?_
    try simp only [Act.put, List.getElem_toArray, List.getElem_cons_zero, List.getElem_cons_succ, List.setIfInBounds_toArray, List.set_cons_zero, List.set_cons_succ]
    refine wpAnyH_take (i := 12) (v := undef) rfl (by kernel_rfl) (by kernel_rfl) (by kernel_rfl) (fun _ _ _ h => h) (Or.inr ⟨by rfl, rfl⟩) (by assumption) ?_
    try simp only [Act.put, List.getElem_toArray, List.getElem_cons_zero, List.getElem_cons_succ, List.setIfInBounds_toArray, List.set_cons_zero, List.set_cons_succ]
    refine wpAnyH_take (i := 13) (v := undef) rfl (by kernel_rfl) (by kernel_rfl) (by kernel_rfl) (fun _ _ _ h => h) (Or.inr ⟨by rfl, rfl⟩) (by assumption) ?_
    try simp only [Act.put, List.getElem_toArray, List.getElem_cons_zero, List.getElem_cons_succ, List.setIfInBounds_toArray, List.set_cons_zero, List.set_cons_succ]
    refine wpAnyH_take (i := 14) (v := undef) rfl (by kernel_rfl) (by kernel_rfl) (by kernel_rfl) (fun _ _ _ h => h) (Or.inr ⟨by rfl, rfl⟩) (by assumption) ?_
    try simp only [Act.put, List.getElem_toArray, List.getElem_cons_zero, List.getElem_cons_succ, List.setIfInBounds_toArray, List.set_cons_zero, List.set_cons_succ]
    refine wpAnyH_take (i := 15) (v := undef) rfl (by kernel_rfl) (by kernel_rfl) (by kernel_rfl) (fun _ _ _ h => h) (Or.inr ⟨by rfl, rfl⟩) (by assumption) ?_
    try simp only [Act.put, List.getElem_toArray, List.getElem_cons_zero, List.getElem_cons_succ, List.setIfInBounds_toArray, List.set_cons_zero, List.set_cons_succ]
    refine wpAnyH_take (i := 16) (v := undef) rfl (by kernel_rfl) (by kernel_rfl) (by kernel_rfl) (fun _ _ _ h => h) (Or.inr ⟨by rfl, rfl⟩) (by assumption) ?_
    try simp only [Act.put, List.getElem_toArray, List.getElem_cons_zero, List.getElem_cons_succ, List.setIfInBounds_toArray, List.set_cons_zero, List.set_cons_succ]
    refine tkH 17 ?_
    refine tkH 18 ?_
    refine wpAnyH_take (i := 19) (v := undef) rfl (by kernel_rfl) (by kernel_rfl) (by kernel_rfl) (fun _ _ _ h => h) (Or.inr ⟨by rfl, rfl⟩) (by assumption) ?_
    try simp only [Act.put, List.getElem_toArray, List.getElem_cons_zero, List.getElem_cons_succ, List.setIfInBounds_toArray, List.set_cons_zero, List.set_cons_succ]
    refine wpAnyH_take (i := 20) (v := undef) rfl (by kernel_rfl) (by kernel_rfl) (by kernel_rfl) (fun _ _ _ h => h) (Or.inr ⟨by rfl, rfl⟩) (by assumption) ?_
    try simp only [Act.put, List.getElem_toArray, List.getElem_cons_zero, List.getElem_cons_succ, List.setIfInBounds_toArray, List.set_cons_zero, List.set_cons_succ]
    refine wpAnyH_take (i := 21) (v := undef) rfl (by kernel_rfl) (by kernel_rfl) (by kernel_rfl) (fun _ _ _ h => h) (Or.inr ⟨by rfl, rfl⟩) (by assumption) ?_
    try simp only [Act.put, List.getElem_toArray, List.getElem_cons_zero, List.getElem_cons_succ, List.setIfInBounds_toArray, List.set_cons_zero, List.set_cons_succ]
    refine wpAnyH_take (i := 22) (v := undef) rfl (by kernel_rfl) (by kernel_rfl) (by kernel_rfl) (fun _ _ _ h => h) (Or.inr ⟨by rfl, rfl⟩) (by assumption) ?_
    try simp only [Act.put, List.getElem_toArray, List.getElem_cons_zero, List.getElem_cons_succ, List.setIfInBounds_toArray, List.set_cons_zero, List.set_cons_succ]
    refine wpAnyH_take (i := 23) (v := undef) rfl (by kernel_rfl) (by kernel_rfl) (by kernel_rfl) (fun _ _ _ h => h) (Or.inr ⟨by rfl, rfl⟩) (by assumption) ?_
    try simp only [Act.put, List.getElem_toArray, List.getElem_cons_zero, List.getElem_cons_succ, List.setIfInBounds_toArray, List.set_cons_zero, List.set_cons_succ]
    refine tkH 24 ?_
    refine tkH 25 ?_
    refine wpAnyH_done (by kernel_rfl) ?_ _
    clear hHeld
    go_wp2
    go_ret
    exact ⟨by rw [HE.out]; first | rfl | simp [*], _, rfl⟩
  · refine tkH 5 ?_
    refine tkH 6 ?_
    refine tkH 7 ?_
    refine tkH 8 ?_
    refine tkH 9 ?_
    refine tkH 11 ?_
    refine tkH 12 ?_
    refine tkH 13 ?_
    refine tkH 14 ?_
    refine wpAnyH_ready (rs := [10]) (by kernel_rfl) (by simp) ?_
    refine AllReadyH.cons rfl (fun K2 hK2 => ?_) AllReadyH.nil
    go_simp
    refine (HA.out 1).mono ?_
    rintro e w1 ⟨rfl, rfl⟩
    try go_wp2_with fail
    refine hK2.out _ _ S0.out (fun hHeld2 => ?_)
    clear hK2 K2 hHeld
    have hHeld := hHeld2
    clear hHeld2
    try simp only [Act.put, List.getElem_toArray, List.getElem_cons_zero, List.getElem_cons_succ, List.setIfInBounds_toArray, List.set_cons_zero, List.set_cons_succ]
    refine wpAnyH_ready (rs := [15]) (by kernel_rfl) (by simp) ?_
    refine AllReadyH.cons rfl (fun K2 hK2 => ?_) AllReadyH.nil
    go_simp
    refine (HP.out 1).mono ?_
    rintro e w1 ⟨rfl, rfl⟩
    try go_wp2_with fail
    refine hK2.out _ _ S0.out (fun hHeld2 => ?_)
    clear hK2 K2 hHeld
    have hHeld := hHeld2
    clear hHeld2
    try simp only [Act.put, List.getElem_toArray, List.getElem_cons_zero, List.getElem_cons_succ, List.setIfInBounds_toArray, List.set_cons_zero, List.set_cons_succ]
    by_cases heq : ak = pl
    · have he1 : (ak == pl) = true := by simp [heq]
      have he2 : decide (ak = pl) = true := decide_eq_true heq
      clear heq
      refine tkH 16 ?_
      refine tkH 17 ?_
      refine tkH 18 ?_
      refine tkH 19 ?_
      refine tkH 20 ?_
      refine tkH 21 ?_
      refine tkH 22 ?_
      refine wpAnyH_ready (rs := [23]) (by kernel_rfl) (by simp) ?_
      refine AllReadyH.cons rfl (fun K2 hK2 => ?_) AllReadyH.nil
      go_simp
      refine (HD.out 1).mono ?_
      rintro e w1 ⟨rfl, k1, rfl⟩
      try go_wp2_with fail
      refine hK2.out _ _ S0.out (fun hHeld2 => ?_)
      clear hK2 K2 hHeld
      have hHeld := hHeld2
      clear hHeld2
      try simp only [Act.put, List.getElem_toArray, List.getElem_cons_zero, List.getElem_cons_succ, List.setIfInBounds_toArray, List.set_cons_zero, List.set_cons_succ]
      refine tkH 24 ?_
      refine tkH 25 ?_
      refine wpAnyH_done (by kernel_rfl) ?_ _
      clear hHeld
      go_wp2
      go_ret
      exact ⟨by rw [HE.out]; rw [he2]; cases dn <;> rfl, _, rfl⟩
    · have he1 : (ak == pl) = false := by simp [heq]
      have he2 : decide (ak = pl) = false := decide_eq_false heq
      clear heq
      refine tkH 16 ?_
      refine tkH 17 ?_
      refine tkH 18 ?_
      refine wpAnyH_take (i := 19) (v := undef) rfl (by kernel_rfl) (by kernel_rfl) (by kernel_rfl) (fun _ _ _ h => h) (Or.inr ⟨by rfl, rfl⟩) (by assumption) ?_
      try simp only [Act.put, List.getElem_toArray, List.getElem_cons_zero, List.getElem_cons_succ, List.setIfInBounds_toArray, List.set_cons_zero, List.set_cons_succ]
      refine wpAnyH_take (i := 20) (v := undef) rfl (by kernel_rfl) (by kernel_rfl) (by kernel_rfl) (fun _ _ _ h => h) (Or.inr ⟨by rfl, rfl⟩) (by assumption) ?_
      try simp only [Act.put, List.getElem_toArray, List.getElem_cons_zero, List.getElem_cons_succ, List.setIfInBounds_toArray, List.set_cons_zero, List.set_cons_succ]
      refine wpAnyH_take (i := 21) (v := undef) rfl (by kernel_rfl) (by kernel_rfl) (by kernel_rfl) (fun _ _ _ h => h) (Or.inr ⟨by rfl, rfl⟩) (by assumption) ?_
      try simp only [Act.put, List.getElem_toArray, List.getElem_cons_zero, List.getElem_cons_succ, List.setIfInBounds_toArray, List.set_cons_zero, List.set_cons_succ]
      refine wpAnyH_take (i := 22) (v := undef) rfl (by kernel_rfl) (by kernel_rfl) (by kernel_rfl) (fun _ _ _ h => h) (Or.inr ⟨by rfl, rfl⟩) (by assumption) ?_
      try simp only [Act.put, List.getElem_toArray, List.getElem_cons_zero, List.getElem_cons_succ, List.setIfInBounds_toArray, List.set_cons_zero, List.set_cons_succ]
      refine wpAnyH_take (i := 23) (v := undef) rfl (by kernel_rfl) (by kernel_rfl) (by kernel_rfl) (fun _ _ _ h => h) (Or.inr ⟨by rfl, rfl⟩) (by assumption) ?_
      try simp only [Act.put, List.getElem_toArray, List.getElem_cons_zero, List.getElem_cons_succ, List.setIfInBounds_toArray, List.set_cons_zero, List.set_cons_succ]
      refine tkH 24 ?_
      refine tkH 25 ?_
      refine wpAnyH_done (by kernel_rfl) ?_ _
      clear hHeld
      go_wp2
      go_ret
      exact ⟨by rw [HE.out]; rw [he2]; cases dn <;> rfl, _, rfl⟩
end Go.Proofs.YtpjlnpnadkbakaaGreat
namespace Go.Proofs.YtpjlnpnadkbakaaGreat
set_option maxRecDepth 10000
open Go.RowKit
structure PkM.own (w : World) (B : Nat) (m : PkM) : Prop where
  bd : PkB m.p
  o : Own .u8 5 w B (.slice m.A m.p.da.length m.c) m.p.da
structure PkRo (w : World) (B : Nat) (v : Value) (ms : List PkM) : Prop where
  row : w.ownsRow B 32 9 v ms.length (pks ms)
  each : ∀ m ∈ ms, m.own w B
section
variable {w w' : World} {B : Nat} {v : Value} {ms : List PkM} {m : PkM}
theorem PkM.own.later (h : m.own w B) (hb : Below w.heap.size w w') : m.own w' B := ⟨h.bd, h.o.later hb⟩
theorem PkRo.nil (w : World) (B : Nat) : PkRo w B (.slice none 0 0) [] := ⟨World.ownsRow_nil w B _ 9, by simp⟩
theorem PkRo.later (h : PkRo w B v ms) (hb : Below w.heap.size w w') : PkRo w' B v ms :=
  ⟨World.ownsRow.kept (row := none) h.row ⟨hb.os, hb.tape, hb.output, hb.size, fun i hi _ => hb.block i hi⟩ (by cases v.ownBlock <;> simp), fun m hm => (h.each m hm).later hb⟩
theorem PkRo.form (h : PkRo w B v ms) : ∃ A c, v = .slice A ms.length c := by
  rcases h.row.2 with ⟨rfl, h0⟩ | ⟨g, cap, cur, rfl, _⟩
  · exact ⟨none, 0, by rw [h0]⟩
  · exact ⟨_, _, rfl⟩
theorem PkRo.lt (h : PkRo w B v ms) : ∀ g, v.ownBlock = some g → B ≤ g ∧ g < w.heap.size := World.ownsRow.lt h.row
theorem own_not_pks {u : Value} {B0 : Nat} {ys : List Int} (h : Own .u8 5 w B0 u ys) (hr : PkRo w B v ms) : u.ownBlock = none ∨ u.ownBlock ≠ v.ownBlock := by
  rcases h.2 with ⟨hv, _⟩ | ⟨g, cap, cur, hv, _, hh, _⟩
  · left; rw [hv]; rfl
  · rcases hr.row.2 with ⟨hv2, _⟩ | ⟨g2, cap2, cur2, hv2, _, hh2, _⟩
    · right
      rw [hv, hv2]
      simp [Value.ownBlock]
    · right
      rw [hv, hv2]
      intro he
      simp only [Value.ownBlock, Option.some.injEq] at he
      subst he
      rw [hh] at hh2
      injection hh2 with hh2
      injection hh2 with _ ht
      exact absurd ht (by decide)
theorem PkM.own.kept (h : m.own w B) (hr : PkRo w B v ms) (hg : w.grownBy w' v.ownBlock) : m.own w' B := ⟨h.bd, h.o.kept hg (own_not_pks h.o hr)⟩
theorem run_appP (h : PkRo w B v ms) (hm : m.own w B) (n : Nat) (hn : ms.length = n) (hb : n ≤ 1099511627776) (hB : B ≤ w.heap.size) (ty : TypeId) :
    ∃ A' c' w', (Builtin.append_ #[61, 61] ty #[v, .slice (some ⟨w.heap.size, 0, none⟩) 1 1]).run Tryz.prog (w.alloc (.cells m.cs.toArray 32)) = .ok (.slice A' (n + 1) c') w' ∧ PkRo w' B (.slice A' (n + 1) c') (ms ++ [m]) ∧ Below B w w' := by
  subst hn
  have hb1 := (Below.refl w.heap.size w).alloc (Nat.le_refl _) (.cells m.cs.toArray 32)
  have h1 := h.later hb1
  have hm1 := hm.later hb1
  have hl : ∀ j u, m.cs[j]? = some u → (w.alloc (.cells m.cs.toArray 32)).cell? ((⟨w.heap.size, 0, none⟩ : Addr).add j) = some u := fun j u hu => by
    have := Pkt.range w m.p m.A m.c 32 j u hu
    rw [Addr.add_lit]
    exact this
  obtain ⟨A', c', w', h2, h3, h4, h5⟩ := run_appN (P := Tryz.prog) (w.alloc (.cells m.cs.toArray 32)) B 61 ty 32 _ 9 88 Tryz.underlying61 info_pkt rfl (by omega) v ms.length (pks ms) h1.row ⟨w.heap.size, 0, none⟩ 1 1 m.cs rfl hl m.cs_one (by unfold maxLen; omega) (by omega) (by simp; omega)
  refine ⟨A', c', w', h2, ⟨?_, fun x hx => ?_⟩, ?_⟩
  · rw [List.length_append, List.length_singleton, pks_app]
    simpa [pks] using h3
  · rcases List.mem_append.1 hx with hx | hx
    · exact (h1.each x hx).kept h1 h4
    · simp at hx
      subst hx
      exact hm1.kept h1 h4
  · have hbB := (Below.refl B w).alloc hB (.cells m.cs.toArray 32)
    exact hbB.grown h4 (by simp; omega) (fun g hg => (h1.lt g hg).1)
theorem PkRo.ls {L : Lab} {i : Nat} (h : PkRo w B v ms) (h0 : ∀ k, B ≤ k → L k = 0) (hi : i = 0) : PkLs w L i v (ms.map PkM.p) := by
  subst hi
  refine ⟨ms, rfl, ⟨h.row.1, ?_⟩, fun m hm => ⟨(h.each m hm).bd, (h.each m hm).o.less (Nat.zero_le _), fun g hg => h0 g ((h.each m hm).o.lt g hg).1⟩, fun g hg => h0 g (h.lt g hg).1⟩
  rcases h.row.2 with h2 | ⟨g, cap, cur, hv, hg, r⟩
  · exact .inl h2
  · exact .inr ⟨g, cap, cur, hv, Nat.zero_le _, r⟩
end
end Go.Proofs.YtpjlnpnadkbakaaGreat
