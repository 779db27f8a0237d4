/-
  What State of the developers' End answers: a contract over the program.
-/
import Derived.Test.YtpjlnpnadkbakaaGreatQBXOw
import Derived.Test.YtpjlnpnadkbakaaGreatQBPrEn12
import Derived.Test.YtpjlnpnadkbakaaGreatQBZStMath
namespace Go.Proofs.YtpjlnpnadkbakaaGreat
set_option maxRecDepth 10000
open Go.RowKit
theorem eeone_any (u : Bool) (w : World) : Calls Tryz.prog 129 #[.bool u] w fun e w' => e = .returned (.int .i64 (oneI u)) ∧ w = w' := by
  cases u
  · go_enter Tryz.func129, Tryz.ntmps129
    go_wp2
    go_ret
    exact ⟨rfl, rfl⟩
  · go_enter Tryz.func129, Tryz.ntmps129
    go_wp2
    go_ret
    exact ⟨rfl, rfl⟩
theorem eeready_any {w : World} {L : Lab} {K b : Nat} {s : EeS} {E : En} (h : EE w L K b s E) (hok : E.ok) :
    Calls Tryz.prog 133 #[.pointer (some ⟨s.ib, 0, none⟩)] w fun e w' => e = .returned (.int .i64 E.i.ready) ∧ Below w.heap.size w w' := by
  obtain ⟨q, h⟩ := h
  obtain ⟨xs, ps, hin⟩ := h.p.inb
  have := En.tk_4096 hok
  have := En.front_4096 hok
  exact ibready_any hin E.i.front (In.front_is hin.ok) (by show E.i.front ≤ _ ∧ E.i.tk ≤ _; omega)
theorem eeidone_any {w : World} {L : Lab} {K b : Nat} {s : EeS} {E : En} (h : EE w L K b s E) :
    Calls Tryz.prog 80 #[.pointer (some ⟨s.ib, 0, none⟩)] w fun e w' => e = .returned (.bool E.i.done) ∧ Below w.heap.size w w' := by
  obtain ⟨q, h⟩ := h
  obtain ⟨xs, ps, hin⟩ := h.p.inb
  refine (ibdone_any hin 0).mono ?_
  rintro e w' ⟨rfl, k, rfl⟩
  exact ⟨rfl, ⟨rfl, rfl, rfl, Nat.le_refl _, fun _ _ => rfl⟩⟩
def ESt (w : World) (E : En) (e : Ending) (w' : World) : Prop := ∃ (A : Option Addr) (m c : Nat), e = .returned (.slice A m c) ∧ m = E.state.length ∧ Own .i64 3 w' w.heap.size (.slice A m c) E.state ∧ Below w.heap.size w w'
structure SeE (wi : World) (b ob pl ib : Nat) (now lim : Int) (D : Option Addr) (nd cd : Nat) (g np cp : Nat) : Prop where
  c8 : wi.cell? ⟨b, 0 + 8, none⟩ = some (.int .i64 now)
  c9 : wi.cell? ⟨b, 0 + 9, none⟩ = some (.int .i64 lim)
  c10 : wi.cell? ⟨b, 0 + 10, none⟩ = some (.slice (some ⟨g, 0, none⟩) np cp)
  c11 : wi.cell? ⟨b, 0 + 11, none⟩ = some (.slice D nd cd)
  c13 : wi.cell? ⟨b, 0 + 13, none⟩ = some (.pointer (some ⟨ob, 0, none⟩))
  c14 : wi.cell? ⟨b, 0 + 14, none⟩ = some (.pointer (some ⟨pl, 0, none⟩))
  c15 : wi.cell? ⟨b, 0 + 15, none⟩ = some (.pointer (some ⟨ib, 0, none⟩))
set_option maxHeartbeats 8000000 in
theorem eestate_any {w : World} {L : Lab} {K b : Nat} {s : EeS} {E : En} (h : EE w L K b s E) (hok : E.ok) :
    Calls Tryz.prog 58 #[.pointer (some ⟨b, 0, none⟩)] w fun e w' => ESt w E e w' := by
  obtain ⟨q, h⟩ := h
  obtain ⟨nd, hnd⟩ : ∃ n, E.due.length = n := ⟨_, rfl⟩
  obtain ⟨nx, hnx⟩ : ∃ n, E.o.xs.length = n := ⟨_, rfl⟩
  obtain ⟨nl, hnl⟩ : ∃ n, E.pl.ls.length = n := ⟨_, rfl⟩
  obtain ⟨np, hnp⟩ : ∃ n, E.ps.length = n := ⟨_, rfl⟩
  obtain ⟨D, cd, hdv⟩ := h.p.dvr.form
  obtain ⟨g, cp, hpv, hpr⟩ := h.p.pvr.at (by have h9 : s.pb.length = E.ps.length := h.p.pbn; have := hok.np1; omega)
  have hpbn : s.pb.length = np := by rw [← hnp]; exact h.p.pbn
  rw [hpbn] at hpv hpr
  simp only at hdv
  rw [hnd] at hdv
  have hn3 := hok.np3
  have hn1 := hok.np1
  have hdn := hok.nd
  have hll := En.ls_len hok
  rw [hnp] at hn3 hn1 hdn
  rw [hnd] at hdn
  rw [hnl] at hll
  obtain ⟨now, hnow⟩ : ∃ x, E.now = x := ⟨_, rfl⟩
  obtain ⟨lim, hlim⟩ : ∃ x, E.limit = x := ⟨_, rfl⟩
  obtain ⟨ak, hak⟩ : ∃ x, E.o.ak = x := ⟨_, rfl⟩
  obtain ⟨sent, hsent⟩ : ∃ x, E.pl.sent = x := ⟨_, rfl⟩
  obtain ⟨tk, htk⟩ : ∃ x, E.i.tk = x := ⟨_, rfl⟩
  obtain ⟨cl, hcl⟩ : ∃ x, E.o.cl = x := ⟨_, rfl⟩
  have HC := Lib.hid (show ∀ wi, Below w.heap.size w wi → SeE wi b s.ob s.pl s.ib now lim D nd cd g np cp from fun wi hb => by
    have h2 := h.grow hb 0
    exact ⟨by rw [← hnow]; exact h2.cell 8 (by omega), by rw [← hlim]; exact h2.cell 9 (by omega), by rw [← hpv]; exact h2.cell 10 (by omega), by rw [← hdv]; exact h2.cell 11 (by omega), h2.cell 13 (by omega), h2.cell 14 (by omega), h2.cell 15 (by omega)⟩)
  have HDUE := Lib.hid (show ∀ wi, Below w.heap.size w wi → Rd .i64 wi D E.due from fun wi hb => by
    have := (h.grow hb 0).p.dvr
    rw [hdv] at this
    exact this.rd)
  have HPT := Lib.hid (show ∀ wi j, Below w.heap.size w wi → j < np → wi.cell? ⟨g, j, none⟩ = some (.pointer (some ⟨s.pb.getD j 0, 0, none⟩)) ∧ Calls Tryz.prog 134 #[.pointer (some ⟨s.pb.getD j 0, 0, none⟩)] wi fun e w' => ∃ A' m c', e = .returned (.slice A' m c') ∧ m = (E.pa j).state.length ∧ m ≤ 4194312 ∧ Rd .i64 w' A' (E.pa j).state ∧ Below wi.heap.size wi w' from fun wi j hb hj => by
    have h2 := h.grow hb 0
    refine ⟨?_, ?_⟩
    · obtain ⟨g2, c2, e2, hp2⟩ := h2.p.pvr.at (by rw [hpbn]; omega)
      rw [hpv] at e2
      injection e2 with e2 _ _
      injection e2 with e2
      injection e2 with e2 _
      subst e2
      exact hp2 j (by rw [hpbn]; exact hj)
    · have hp := h2.pth j (by rw [hnp]; exact hj)
      have hf := hok.pa (i := j) (by rw [hnp]; exact hj)
      refine (pastate_any hp hf.ok).mono ?_
      rintro e w' ⟨A', m, c', rfl, hm, ho, hb2⟩
      refine ⟨A', m, c', rfl, hm, ?_, ho.rd, hb2⟩
      have h1 := hf.ok.n
      have h2 := (E.pa j).stN_len (i := (E.pa j).fl.length) (Nat.le_refl _)
      rw [hm, ← (E.pa j).stN_all, h2]
      omega)
  have HLN := Lib.hid (show ∀ wi, Below w.heap.size w wi → Calls Tryz.prog 128 #[.pointer (some ⟨s.ob, 0, none⟩)] wi fun e w' => e = .returned (.int .i64 (nx : Int)) ∧ wi = w' from fun wi hb => by rw [← hnx]; exact len_any (h.grow hb 0).p.out)
  have HCL := Lib.hid (show ∀ wi, Below w.heap.size w wi → Calls Tryz.prog 77 #[.pointer (some ⟨s.ob, 0, none⟩)] wi fun e w' => e = .returned (.bool cl) ∧ wi = w' from fun wi hb => by rw [← hcl]; exact closed_any (h.grow hb 0).p.out)
  have HAK := Lib.hid (show ∀ wi, Below w.heap.size w wi → Calls Tryz.prog 78 #[.pointer (some ⟨s.ob, 0, none⟩)] wi fun e w' => e = .returned (.int .i64 ak) ∧ wi = w' from fun wi hb => by rw [← hak]; exact acked_any (h.grow hb 0).p.out)
  have HMS := Lib.hid (show ∀ wi, Below w.heap.size w wi → Calls Tryz.prog 130 #[.pointer (some ⟨s.pl, 0, none⟩)] wi fun e w' => ∃ A' c', e = .returned (.slice A' nl c') ∧ OwnP 143 w' wi.heap.size (.slice A' nl c') E.pl.ls ∧ Below wi.heap.size wi w' from fun wi hb => by rw [← hnl]; exact missing_any (h.grow hb 0).p.pln)
  have HST := Lib.hid (show ∀ wi, Below w.heap.size w wi → Calls Tryz.prog 131 #[.pointer (some ⟨s.pl, 0, none⟩)] wi fun e w' => e = .returned (.int .i64 sent) ∧ wi = w' from fun wi hb => by rw [← hsent]; exact sent_any (h.grow hb 0).p.pln)
  have HTK := Lib.hid (show ∀ wi, Below w.heap.size w wi → Calls Tryz.prog 132 #[.pointer (some ⟨s.ib, 0, none⟩)] wi fun e w' => e = .returned (.int .i64 tk) ∧ wi = w' from fun wi hb => by
    obtain ⟨xs, ps, hin⟩ := (h.grow hb 0).p.inb
    rw [← htk]
    exact ibtaken_any hin)
  have HE := Lib.hid (show EE w L K b s E from ⟨q, h⟩)
  have HSE := Lib.hid (show ∀ wi, Below w.heap.size w wi → Calls Tryz.prog 73 #[.pointer (some ⟨s.ib, 0, none⟩)] wi fun e w' => e = .returned (.int .i64 E.i.seen) ∧ Below wi.heap.size wi w' from fun wi hb => eeseen_any (HE.out.grow hb 0) hok)
  have HRE := Lib.hid (show ∀ wi, Below w.heap.size w wi → Calls Tryz.prog 133 #[.pointer (some ⟨s.ib, 0, none⟩)] wi fun e w' => e = .returned (.int .i64 E.i.ready) ∧ Below wi.heap.size wi w' from fun wi hb => eeready_any (HE.out.grow hb 0) hok)
  have HDO := Lib.hid (show ∀ wi, Below w.heap.size w wi → Calls Tryz.prog 80 #[.pointer (some ⟨s.ib, 0, none⟩)] wi fun e w' => e = .returned (.bool E.i.done) ∧ Below wi.heap.size wi w' from fun wi hb => eeidone_any (HE.out.grow hb 0))
  have HN := Lib.hid (And.intro hn3 (And.intro hn1 (And.intro hdn hll)))
  have HNN := Lib.hid (And.intro hnd (And.intro hnl hnp))
  have HS0 := Lib.hid (show E.st0 = [now] ++ E.due by unfold En.st0; rw [hnow])
  have HS1 := Lib.hid (show E.st1 = E.st0 ++ [lim, (nx : Int), oneI cl, ak] ++ [sent, (nl : Int)] by unfold En.st1; rw [hlim, hnx, hcl, hak, hsent, hnl, List.append_assoc]; rfl)
  have HS2 := Lib.hid (show E.st2 = E.stL nl ++ [tk, E.i.seen, E.i.ready, oneI E.i.done] by unfold En.st2; rw [hnl, htk])
  clear h hok hnd hnx hnl hnp hdv hpv hpr hpbn hn3 hn1 hdn hll hnow hlim hak hsent htk hcl HE
  obtain ⟨pbl, hpbl⟩ : ∃ f : List Nat, s.pb = f := ⟨_, rfl⟩
  have c8 := (HC.out w (Below.refl _ _)).c8
  have c11 := (HC.out w (Below.refl _ _)).c11
  go_enter Tryz.func58, Tryz.ntmps58
  obtain ⟨W1, hW1⟩ : ∃ x : World, w.alloc (.cells #[.int .i64 now] 3) = x := ⟨_, rfl⟩
  have HO1 := Lib.hid (show StO w W1 (some ⟨w.heap.size, 0, none⟩) 1 1 [now] from by
    have := Own.newK .i64 w [now] 3 (by simp [maxLen])
    rw [← hW1]
    exact ⟨rfl, this, (Below.refl _ _).alloc (Nat.le_refl _) _⟩)
  obtain ⟨An, cn, W2, hrun, ho2⟩ := StO.app (d := cd) HO1.out HNN.out.1 (HDUE.out W1 HO1.out.bel) (by have := HN.out; omega)
  rw [← HS0.out] at ho2
  have HO2 := Lib.hid ho2
  rw [← hW1] at hrun
  have c11 := (HC.out W1 HO1.out.bel).c11
  rw [← hW1] at c11
  clear ho2 hW1
  go_wp2_with (at_builtin; refine Lib.wpList_append_run _ rfl _ _ _ _ rfl _ _ rfl rfl _ _ hrun ?_)
  clear hrun c8 c11 HO1
  refine wp_region_held_drew (S := fun wi => Below w.heap.size w wi) (by kernel_rfl) HO2.out.bel.drew ?_
  intro hHeld
  obtain ⟨W3, hW3⟩ : ∃ x : World, W2.drew = x := ⟨_, rfl⟩
  have HO3 := Lib.hid (show StO w W3 _ _ _ E.st0 by rw [← hW3]; exact HO2.out.later (Below.refl _ _).drew)
  rw [hW3] at hHeld ⊢
  clear hW3 HO2
  refine tkH 0 ?_
  refine tkH 1 ?_
  refine tkH 2 ?_
  refine tkH 3 ?_
  refine tkH 5 ?_
  refine tkH 6 ?_
  refine tkH 7 ?_
  refine tkH 10 ?_
  refine tkH 11 ?_
  refine tkH 12 ?_
  refine tkH 16 ?_
  refine tkH 17 ?_
  refine tkH 18 ?_
  refine wpAnyH_take (i := 4) (v := ?_) rfl (by kernel_rfl) (by kernel_rfl) (by kernel_rfl) (fun _ _ _ h => h) (Or.inl ⟨by rfl, ?_⟩) (by assumption) ?_
  rotate_left
  · intro w hSw
    (try dsimp only at hSw)
    have c9 := (HC.out _ hSw).c9
    clear hSw
    go_simp
    try (with_reducible rfl)
  try simp only [Act.put, List.getElem_toArray, List.getElem_cons_zero, List.getElem_cons_succ, List.setIfInBounds_toArray, List.set_cons_zero, List.set_cons_succ]
  refine wpAnyH_take (i := 8) (v := ?_) rfl (by kernel_rfl) (by kernel_rfl) (by kernel_rfl) (fun _ _ _ h => h) (Or.inl ⟨by rfl, ?_⟩) (by assumption) ?_
  rotate_left
  · intro w hSw
    (try dsimp only at hSw)
    have c9 := (HC.out _ hSw).c13
    clear hSw
    go_simp
    try (with_reducible rfl)
  try simp only [Act.put, List.getElem_toArray, List.getElem_cons_zero, List.getElem_cons_succ, List.setIfInBounds_toArray, List.set_cons_zero, List.set_cons_succ]
  refine wpAnyH_take (i := 13) (v := ?_) rfl (by kernel_rfl) (by kernel_rfl) (by kernel_rfl) (fun _ _ _ h => h) (Or.inl ⟨by rfl, ?_⟩) (by assumption) ?_
  rotate_left
  · intro w hSw
    (try dsimp only at hSw)
    have c9 := (HC.out _ hSw).c13
    clear hSw
    go_simp
    try (with_reducible rfl)
  try simp only [Act.put, List.getElem_toArray, List.getElem_cons_zero, List.getElem_cons_succ, List.setIfInBounds_toArray, List.set_cons_zero, List.set_cons_succ]
  refine wpAnyH_take (i := 19) (v := ?_) rfl (by kernel_rfl) (by kernel_rfl) (by kernel_rfl) (fun _ _ _ h => h) (Or.inl ⟨by rfl, ?_⟩) (by assumption) ?_
  rotate_left
  · intro w hSw
    (try dsimp only at hSw)
    have c9 := (HC.out _ hSw).c13
    clear hSw
    go_simp
    try (with_reducible rfl)
  try simp only [Act.put, List.getElem_toArray, List.getElem_cons_zero, List.getElem_cons_succ, List.setIfInBounds_toArray, List.set_cons_zero, List.set_cons_succ]
  refine wpAnyH_ready (rs := [9]) (by kernel_rfl) (by simp) ?_
  refine AllReadyH.cons rfl (fun K2 hK2 => ?_) AllReadyH.nil
  go_simp
  refine (HLN.out _ hHeld).mono ?_
  rintro e w9 ⟨rfl, rfl⟩
  have SN := Lib.hid hHeld
  refine hK2.out _ _ SN.out (fun hHeld2 => ?_)
  clear hK2 K2 hHeld
  have hHeld := hHeld2
  clear hHeld2
  try simp only [Act.put, List.getElem_toArray, List.getElem_cons_zero, List.getElem_cons_succ, List.setIfInBounds_toArray, List.set_cons_zero, List.set_cons_succ]
  refine wpAnyH_ready (rs := [14]) (by kernel_rfl) (by simp) ?_
  refine AllReadyH.cons rfl (fun K2 hK2 => ?_) AllReadyH.nil
  go_simp
  refine (HCL.out _ hHeld).mono ?_
  rintro e w9 ⟨rfl, rfl⟩
  have SN := Lib.hid hHeld
  refine hK2.out _ _ SN.out (fun hHeld2 => ?_)
  clear hK2 K2 hHeld
  have hHeld := hHeld2
  clear hHeld2
  try simp only [Act.put, List.getElem_toArray, List.getElem_cons_zero, List.getElem_cons_succ, List.setIfInBounds_toArray, List.set_cons_zero, List.set_cons_succ]
  refine wpAnyH_ready (rs := [15]) (by kernel_rfl) (by simp) ?_
  refine AllReadyH.cons rfl (fun K2 hK2 => ?_) AllReadyH.nil
  go_simp
  refine (eeone_any cl _).mono ?_
  rintro e w9 ⟨rfl, rfl⟩
  have SN := Lib.hid hHeld
  refine hK2.out _ _ SN.out (fun hHeld2 => ?_)
  clear hK2 K2 hHeld
  have hHeld := hHeld2
  clear hHeld2
  try simp only [Act.put, List.getElem_toArray, List.getElem_cons_zero, List.getElem_cons_succ, List.setIfInBounds_toArray, List.set_cons_zero, List.set_cons_succ]
  refine wpAnyH_ready (rs := [20]) (by kernel_rfl) (by simp) ?_
  refine AllReadyH.cons rfl (fun K2 hK2 => ?_) AllReadyH.nil
  go_simp
  refine (HAK.out _ hHeld).mono ?_
  rintro e w9 ⟨rfl, rfl⟩
  have SN := Lib.hid hHeld
  refine hK2.out _ _ SN.out (fun hHeld2 => ?_)
  clear hK2 K2 hHeld
  have hHeld := hHeld2
  clear hHeld2
  try simp only [Act.put, List.getElem_toArray, List.getElem_cons_zero, List.getElem_cons_succ, List.setIfInBounds_toArray, List.set_cons_zero, List.set_cons_succ]
  refine wpAnyH_ready (rs := [21]) (by kernel_rfl) (by simp) ?_
  refine AllReadyH.cons rfl (fun K2 hK2 => ?_) AllReadyH.nil
  go_simp
  have SN := Lib.hid (Below.alloc hHeld hHeld.size (.cells (cel .i64 [lim, (nx : Int), oneI cl, ak]).toArray 3))
  have hrd := rd_lit .i64 W3 [lim, (nx : Int), oneI cl, ak] 3 (0, 0)
  have hwd : W3.alloc (.cells (cel .i64 [lim, (nx : Int), oneI cl, ak]).toArray 3) = W3.alloc (.cells #[.int .i64 lim, .int .i64 (nx : Int), .int .i64 (oneI cl), .int .i64 ak] 3) := rfl
  obtain ⟨W4, hwn⟩ : ∃ x : World, W3.alloc (.cells #[.int .i64 lim, .int .i64 (nx : Int), .int .i64 (oneI cl), .int .i64 ak] 3) = x := ⟨_, rfl⟩
  obtain ⟨gt, hgt⟩ : ∃ x, W3.heap.size = x := ⟨_, rfl⟩
  rw [hwd, hwn] at SN hrd
  rw [hwn]
  rw [hgt] at hrd ⊢
  have HO4 := Lib.hid (show StO w W4 _ _ _ E.st0 by rw [← hwn]; exact HO3.out.alloc _)
  have HRD := Lib.hid hrd
  clear hrd hwd hwn hgt HO3
  refine hK2.out _ _ SN.out (fun hHeld2 => ?_)
  clear hK2 K2 hHeld
  have hHeld := hHeld2
  clear hHeld2
  try simp only [Act.put, List.getElem_toArray, List.getElem_cons_zero, List.getElem_cons_succ, List.setIfInBounds_toArray, List.set_cons_zero, List.set_cons_succ]
  refine wpAnyH_ready (rs := [22]) (by kernel_rfl) (by simp) ?_
  refine AllReadyH.cons rfl (fun K2 hK2 => ?_) AllReadyH.nil
  obtain ⟨An, cn, W5, hrun, ho2⟩ := StO.app (d := 4) HO4.out (show [lim, (nx : Int), oneI cl, ak].length = 4 from rfl) HRD.out (by have := HN.out; omega)
  have HO5 := Lib.hid ho2
  have SN := Lib.hid ho2.bel
  clear ho2
  refine step_app_r4 (by rfl) (.tmp 20) (.tmp 41) 49 rfl _ _ _ rfl rfl hrun ?_
  clear hrun
  refine hK2.out _ _ SN.out (fun hHeld2 => ?_)
  clear hK2 K2 hHeld
  have hHeld := hHeld2
  clear hHeld2
  try simp only [Act.put, List.getElem_toArray, List.getElem_cons_zero, List.getElem_cons_succ, List.setIfInBounds_toArray, List.set_cons_zero, List.set_cons_succ]
  refine tkH 23 ?_
  refine wpAnyH_done (by kernel_rfl) ?_ _
  clear hHeld HO4 HRD
  have c14 := (HC.out _ HO5.out.bel).c14
  go_wp2_with fail
  refine (HMS.out _ HO5.out.bel).mono ?_
  rintro e W6 ⟨M, cm, rfl, hmr, hbm⟩
  have HM6 := Lib.hid (StM.new HO5.out hmr hbm)
  clear hmr hbm HO5 c14
  have c14 := (HC.out _ HM6.out.st.bel).c14
  go_wp2_with fail
  refine (HST.out _ HM6.out.st.bel).mono ?_
  rintro e w9 ⟨rfl, rfl⟩
  obtain ⟨W7, hW7⟩ : ∃ x : World, W6.alloc (.cells #[.int .i64 sent, .int .i64 (nl : Int)] 3) = x := ⟨_, rfl⟩
  have HM7 := Lib.hid (show StM w W7 _ _ _ (E.st0 ++ [lim, (nx : Int), oneI cl, ak]) M nl cm E.pl.ls by rw [← hW7]; exact HM6.out.alloc _)
  have hrd : Rd .i64 W7 (some ⟨W6.heap.size, 0, none⟩) [sent, (nl : Int)] := by rw [← hW7]; exact rd_lit .i64 W6 [sent, (nl : Int)] 3 (0, 0)
  obtain ⟨A8, c8', W8, hrun, ho2⟩ := StM.app (d := 2) HM7.out (show [sent, (nl : Int)].length = 2 from rfl) hrd (by have := HN.out; omega)
  rw [← HS1.out] at ho2
  have HM8 := Lib.hid ho2
  rw [← hW7] at hrun
  clear ho2 hW7 hrd HM7 HM6 c14
  go_wp2_with (at_builtin; refine Lib.wpList_append_run _ rfl _ _ _ _ rfl _ _ rfl rfl _ _ hrun ?_)
  clear hrun
  go_loopw [3, 60] (fun ov iv wr => ∃ (j : Nat) (A1 : Option Addr) (m1 c1 : Nat), j ≤ nl ∧ iv = .int .i64 j ∧ ov = .slice A1 m1 c1 ∧ m1 ≤ 10 + 2 * j ∧ Hid (StM w wr A1 m1 c1 (E.stL j) M nl cm E.pl.ls)) (fun _ iv _ => nl - (intOf iv).toNat)
  case atStart => exact ⟨0, _, _, _, by omega, rfl, rfl, by have := HN.out; omega, Lib.hid (by have := HM8.out; rwa [show E.st1 = E.stL 0 by unfold En.stL; simp [En.lostL]] at this)⟩
  case round =>
    clear HM8
    obtain ⟨j, A1, m1, c1, hj, rfl, rfl, hm1, hmid⟩ := hrel
    by_cases hjn : j < nl
    · obtain ⟨gl, hgl, y0, y1⟩ : ∃ gl, M = some ⟨gl, 0, none⟩ ∧ wr.cell? ⟨gl, j * 2, none⟩ = some (.int .i64 (E.pl.ls.getD j (0, 0)).1) ∧ wr.cell? ⟨gl, j * 2 + 1, none⟩ = some (.int .i64 (E.pl.ls.getD j (0, 0)).2) := by
        have h1 := hmid.out.ow
        obtain ⟨gl, e, _⟩ := h1.at (by omega)
        rw [e] at h1
        exact ⟨gl, e, h1.cells j hjn⟩
      subst hgl
      have hst := En.stL_next (E := E) (j := j) (by rw [HNN.out.2.1]; exact hjn)
      obtain ⟨⟨px, py⟩, hq⟩ : ∃ q, E.pl.ls.getD j (0, 0) = q := ⟨_, rfl⟩
      rw [hq] at y0 y1 hst
      simp only [] at y0 y1 hst
      have i1 : (j : Int) < (nl : Int) := by omega
      have i2 : (0 : Int) ≤ (j : Int) := by omega
      have HJ := Lib.hid (And.intro hjn hm1)
      have HJW := Lib.hid (show wrap64 ((j : Int) + 1) = ((j + 1 : Nat) : Int) from wrap_atS (by omega) (by omega) (by have := HN.out; omega))
      obtain ⟨A2, c2, w2, hrun, ho2⟩ := StM.app (d := 2) ((hmid.out.alloc (.cells #[.int .i64 px, .int .i64 py] 143)).alloc (.cells (cel .i64 [px, py]).toArray 3)) (ys := [px, py]) (k := 2) rfl (rd_lit .i64 (wr.alloc (.cells #[.int .i64 px, .int .i64 py] 143)) [px, py] 3 (0, 0)) (by have := HN.out; omega)
      rw [← hst] at ho2
      have HNX := Lib.hid ho2
      rw [World.size_alloc] at hrun
      clear hst hq ho2 hmid hj hjn hm1
      go_wp2_with (at_builtin; refine Lib.wpList_append_run _ rfl _ _ _ _ rfl _ _ rfl rfl _ _ hrun ?_)
      clear hrun
      go_roundw
      case rel => exact ⟨j + 1, A2, _, c2, by have := HJ.out; omega, by first | rfl | (rw [HJW.out]), rfl, by have := HJ.out; omega, HNX⟩
      case measure => (try rw [HJW.out]); have := HJ.out; simp [intOf]; omega
    · have e : j = nl := by omega
      subst e
      have j1 : ¬ ((j : Int) < (j : Int)) := by omega
      have HM1 := Lib.hid hm1
      obtain ⟨W6, hW6⟩ : ∃ x : World, wr.drew = x := ⟨_, rfl⟩
      have HO6 := Lib.hid (show StO w W6 A1 m1 c1 (E.stL j) by rw [← hW6]; exact hmid.out.st.later (Below.refl _ _).drew)
      clear hmid hj hjn hm1
      go_wp2_with fail
      refine wp_region_held_drew (S := fun wi => Below w.heap.size w wi) (by kernel_rfl) (by rw [hW6]; exact HO6.out.bel) ?_
      intro hHeld
      rw [hW6] at hHeld ⊢
      clear hW6
      refine tkH 0 ?_
      refine tkH 1 ?_
      refine tkH 2 ?_
      refine tkH 3 ?_
      refine tkH 6 ?_
      refine tkH 7 ?_
      refine tkH 8 ?_
      refine tkH 11 ?_
      refine tkH 12 ?_
      refine tkH 13 ?_
      refine tkH 16 ?_
      refine tkH 17 ?_
      refine tkH 18 ?_
      refine wpAnyH_take (i := 4) (v := ?_) rfl (by kernel_rfl) (by kernel_rfl) (by kernel_rfl) (fun _ _ _ h => h) (Or.inl ⟨by rfl, ?_⟩) (by assumption) ?_
      rotate_left
      · intro w hSw
        (try dsimp only at hSw)
        have c9 := (HC.out _ hSw).c15
        clear hSw
        go_simp
        try (with_reducible rfl)
      try simp only [Act.put, List.getElem_toArray, List.getElem_cons_zero, List.getElem_cons_succ, List.setIfInBounds_toArray, List.set_cons_zero, List.set_cons_succ]
      refine wpAnyH_take (i := 9) (v := ?_) rfl (by kernel_rfl) (by kernel_rfl) (by kernel_rfl) (fun _ _ _ h => h) (Or.inl ⟨by rfl, ?_⟩) (by assumption) ?_
      rotate_left
      · intro w hSw
        (try dsimp only at hSw)
        have c9 := (HC.out _ hSw).c15
        clear hSw
        go_simp
        try (with_reducible rfl)
      try simp only [Act.put, List.getElem_toArray, List.getElem_cons_zero, List.getElem_cons_succ, List.setIfInBounds_toArray, List.set_cons_zero, List.set_cons_succ]
      refine wpAnyH_take (i := 14) (v := ?_) rfl (by kernel_rfl) (by kernel_rfl) (by kernel_rfl) (fun _ _ _ h => h) (Or.inl ⟨by rfl, ?_⟩) (by assumption) ?_
      rotate_left
      · intro w hSw
        (try dsimp only at hSw)
        have c9 := (HC.out _ hSw).c15
        clear hSw
        go_simp
        try (with_reducible rfl)
      try simp only [Act.put, List.getElem_toArray, List.getElem_cons_zero, List.getElem_cons_succ, List.setIfInBounds_toArray, List.set_cons_zero, List.set_cons_succ]
      refine wpAnyH_take (i := 19) (v := ?_) rfl (by kernel_rfl) (by kernel_rfl) (by kernel_rfl) (fun _ _ _ h => h) (Or.inl ⟨by rfl, ?_⟩) (by assumption) ?_
      rotate_left
      · intro w hSw
        (try dsimp only at hSw)
        have c9 := (HC.out _ hSw).c15
        clear hSw
        go_simp
        try (with_reducible rfl)
      try simp only [Act.put, List.getElem_toArray, List.getElem_cons_zero, List.getElem_cons_succ, List.setIfInBounds_toArray, List.set_cons_zero, List.set_cons_succ]
      refine wpAnyH_ready (rs := [5]) (by kernel_rfl) (by simp) ?_
      refine AllReadyH.cons rfl (fun K2 hK2 => ?_) AllReadyH.nil
      go_simp
      refine (HTK.out _ hHeld).mono ?_
      rintro e w9 ⟨rfl, rfl⟩
      have SN := Lib.hid hHeld
      refine hK2.out _ _ SN.out (fun hHeld2 => ?_)
      clear hK2 K2 hHeld
      have hHeld := hHeld2
      clear hHeld2
      try simp only [Act.put, List.getElem_toArray, List.getElem_cons_zero, List.getElem_cons_succ, List.setIfInBounds_toArray, List.set_cons_zero, List.set_cons_succ]
      refine wpAnyH_ready (rs := [10]) (by kernel_rfl) (by simp) ?_
      refine AllReadyH.cons rfl (fun K2 hK2 => ?_) AllReadyH.nil
      go_simp
      refine (HSE.out _ hHeld).mono ?_
      rintro e W7 ⟨rfl, hb⟩
      have HO7 := Lib.hid (HO6.out.later hb)
      have SN := Lib.hid (show Below w.heap.size w W7 from HO7.out.bel)
      clear hb HO6
      refine hK2.out _ _ SN.out (fun hHeld2 => ?_)
      clear hK2 K2 hHeld
      have hHeld := hHeld2
      clear hHeld2
      try simp only [Act.put, List.getElem_toArray, List.getElem_cons_zero, List.getElem_cons_succ, List.setIfInBounds_toArray, List.set_cons_zero, List.set_cons_succ]
      refine wpAnyH_ready (rs := [15]) (by kernel_rfl) (by simp) ?_
      refine AllReadyH.cons rfl (fun K2 hK2 => ?_) AllReadyH.nil
      go_simp
      refine (HRE.out _ hHeld).mono ?_
      rintro e W8 ⟨rfl, hb⟩
      have HO8 := Lib.hid (HO7.out.later hb)
      have SN := Lib.hid (show Below w.heap.size w W8 from HO8.out.bel)
      clear hb HO7
      refine hK2.out _ _ SN.out (fun hHeld2 => ?_)
      clear hK2 K2 hHeld
      have hHeld := hHeld2
      clear hHeld2
      try simp only [Act.put, List.getElem_toArray, List.getElem_cons_zero, List.getElem_cons_succ, List.setIfInBounds_toArray, List.set_cons_zero, List.set_cons_succ]
      refine wpAnyH_ready (rs := [20]) (by kernel_rfl) (by simp) ?_
      refine AllReadyH.cons rfl (fun K2 hK2 => ?_) AllReadyH.nil
      go_simp
      refine (HDO.out _ hHeld).mono ?_
      rintro e W9 ⟨rfl, hb⟩
      have HO9 := Lib.hid (HO8.out.later hb)
      have SN := Lib.hid (show Below w.heap.size w W9 from HO9.out.bel)
      clear hb HO8
      refine hK2.out _ _ SN.out (fun hHeld2 => ?_)
      clear hK2 K2 hHeld
      have hHeld := hHeld2
      clear hHeld2
      try simp only [Act.put, List.getElem_toArray, List.getElem_cons_zero, List.getElem_cons_succ, List.setIfInBounds_toArray, List.set_cons_zero, List.set_cons_succ]
      refine wpAnyH_ready (rs := [21]) (by kernel_rfl) (by simp) ?_
      refine AllReadyH.cons rfl (fun K2 hK2 => ?_) AllReadyH.nil
      go_simp
      refine (eeone_any _ _).mono ?_
      rintro e w9 ⟨rfl, rfl⟩
      have SN := Lib.hid hHeld
      refine hK2.out _ _ SN.out (fun hHeld2 => ?_)
      clear hK2 K2 hHeld
      have hHeld := hHeld2
      clear hHeld2
      try simp only [Act.put, List.getElem_toArray, List.getElem_cons_zero, List.getElem_cons_succ, List.setIfInBounds_toArray, List.set_cons_zero, List.set_cons_succ]
      refine wpAnyH_ready (rs := [22]) (by kernel_rfl) (by simp) ?_
      refine AllReadyH.cons rfl (fun K2 hK2 => ?_) AllReadyH.nil
      go_simp
      have SN := Lib.hid (Below.alloc hHeld hHeld.size (.cells (cel .i64 [tk, E.i.seen, E.i.ready, oneI E.i.done]).toArray 3))
      have hrd := rd_lit .i64 W9 [tk, E.i.seen, E.i.ready, oneI E.i.done] 3 (0, 0)
      have hwd : W9.alloc (.cells (cel .i64 [tk, E.i.seen, E.i.ready, oneI E.i.done]).toArray 3) = W9.alloc (.cells #[.int .i64 tk, .int .i64 E.i.seen, .int .i64 E.i.ready, .int .i64 (oneI E.i.done)] 3) := rfl
      obtain ⟨Wa, hwn⟩ : ∃ x : World, W9.alloc (.cells #[.int .i64 tk, .int .i64 E.i.seen, .int .i64 E.i.ready, .int .i64 (oneI E.i.done)] 3) = x := ⟨_, rfl⟩
      obtain ⟨gt, hgt⟩ : ∃ x, W9.heap.size = x := ⟨_, rfl⟩
      rw [hwd, hwn] at SN hrd
      rw [hwn]
      rw [hgt] at hrd ⊢
      have HOa := Lib.hid (show StO w Wa _ _ _ (E.stL j) by rw [← hwn]; exact HO9.out.alloc _)
      have HRD := Lib.hid hrd
      clear hrd hwd hwn hgt HO9
      refine hK2.out _ _ SN.out (fun hHeld2 => ?_)
      clear hK2 K2 hHeld
      have hHeld := hHeld2
      clear hHeld2
      try simp only [Act.put, List.getElem_toArray, List.getElem_cons_zero, List.getElem_cons_succ, List.setIfInBounds_toArray, List.set_cons_zero, List.set_cons_succ]
      refine wpAnyH_ready (rs := [23]) (by kernel_rfl) (by simp) ?_
      refine AllReadyH.cons rfl (fun K2 hK2 => ?_) AllReadyH.nil
      obtain ⟨An, cn, Wb, hrun, ho2⟩ := StO.app (d := 4) HOa.out (show [tk, E.i.seen, E.i.ready, oneI E.i.done].length = 4 from rfl) HRD.out (by have := HN.out; have := HM1.out; omega)
      rw [← HS2.out] at ho2
      have HOb := Lib.hid ho2
      have SN := Lib.hid ho2.bel
      clear ho2
      refine step_app_r4 (by rfl) (.tmp 72) (.tmp 94) 49 rfl _ _ _ rfl rfl hrun ?_
      clear hrun
      refine hK2.out _ _ SN.out (fun hHeld2 => ?_)
      clear hK2 K2 hHeld
      have hHeld := hHeld2
      clear hHeld2
      try simp only [Act.put, List.getElem_toArray, List.getElem_cons_zero, List.getElem_cons_succ, List.setIfInBounds_toArray, List.set_cons_zero, List.set_cons_succ]
      refine tkH 24 ?_
      refine wpAnyH_done (by kernel_rfl) ?_ _
      clear hHeld HOa HRD
      have c10 := (HC.out _ HOb.out.bel).c10
      go_wp2_with fail
      clear c10
      go_loopw [3, 101, 8] (fun ov iv _ wr => ∃ (i : Nat) (A1 : Option Addr) (m1 c1 : Nat), i ≤ np ∧ iv = .int .i64 i ∧ ov = .slice A1 m1 c1 ∧ m1 ≤ 20000 + 4194312 * i ∧ Hid (StO w wr A1 m1 c1 (E.stP i))) (fun _ iv _ _ => np - (intOf iv).toNat)
      case atStart => exact ⟨0, _, _, _, by omega, rfl, rfl, by have := HN.out; have := HM1.out; omega, Lib.hid (by have := HOb.out; rwa [show E.st2 = E.stP 0 by unfold En.stP; simp] at this)⟩
      case round =>
        clear HOb
        obtain ⟨i, A1, m1, c1, hi, rfl, rfl, hm1, hmid⟩ := hrel
        by_cases hin : i < np
        · obtain ⟨y, hcall⟩ := HPT.out wr i hmid.out.bel hin
          have hst := En.stP_next (E := E) (j := i) (by rw [HNN.out.2.2]; exact hin)
          obtain ⟨pb, hpb⟩ : ∃ pb, s.pb.getD i 0 = pb := ⟨_, rfl⟩
          rw [hpb] at y hcall
          have HCL := Lib.hid hcall
          have i1 : (i : Int) < (np : Int) := by omega
          have i2 : (0 : Int) ≤ (i : Int) := by omega
          have HJ := Lib.hid (And.intro hin (And.intro hm1 hst))
          have HJW := Lib.hid (show wrap64 ((i : Int) + 1) = ((i + 1 : Nat) : Int) from wrap_atS (by omega) (by omega) (by have := HN.out; omega))
          clear hcall hst hpb hi hin hm1
          go_wp2_with fail
          refine HCL.out.mono ?_
          rintro e w4 ⟨A4, m4, c4, rfl, hm4, hb4, hrd4, hbl4⟩
          obtain ⟨hin, hm1, hst⟩ := HJ.out
          obtain ⟨A2, c2, w2, hrun, ho2⟩ := StO.app (d := c4) (hmid.out.later hbl4) hm4.symm hrd4 (by have := HN.out; omega)
          rw [← hst] at ho2
          have HNX := Lib.hid ho2
          have HM4 := Lib.hid hb4
          clear hst ho2 hmid hin hm1 HCL hm4 hb4 hrd4 hbl4 y
          go_wp2_with (at_builtin; refine Lib.wpList_append_run _ rfl _ _ _ _ rfl _ _ rfl rfl _ _ hrun ?_)
          clear hrun
          go_roundw
          case rel => exact ⟨i + 1, A2, _, c2, by have := HJ.out.1; omega, by first | rfl | (rw [HJW.out]), rfl, by have := HJ.out.2.1; have := HM4.out; omega, HNX⟩
          case measure => (try rw [HJW.out]); have := HJ.out.1; simp [intOf]; omega
        · have e : i = np := by omega
          subst e
          have j2 : ¬ ((i : Int) < (i : Int)) := by omega
          have ho := hmid.out
          rw [En.stP_all HNN.out.2.2] at ho
          have HFIN := Lib.hid (show ESt w E (.returned (.slice A1 m1 c1)) wr from ⟨_, _, _, rfl, ho.len.symm, ho.own, ho.bel⟩)
          clear hmid hi hin hm1 ho
          go_wp2
          go_ret
          exact HFIN.out
end Go.Proofs.YtpjlnpnadkbakaaGreat
